/- The document's states: accounts by rising addresses; Get. -/
import Derived.Test.YtklpcppdjcedpaaST7
namespace Go.Proofs.Ytklpcppdjcedpaa
open Go.RowKit Go.WideMaps Go.ChangeMaps Go.MapKept
set_option linter.unusedVariables false
set_option linter.unusedSimpArgs false
set_option maxRecDepth 100000
set_option maxHeartbeats 1000000
/-- The order of addresses. -/
def aLt : List Nat → List Nat → Prop
  | [], [] => False
  | [], _ :: _ => True
  | _ :: _, [] => False
  | x :: a, y :: b => x < y ∨ (x = y ∧ aLt a b)
instance aLt_dec : ∀ a b : List Nat, Decidable (aLt a b)
  | [], [] => .isFalse (fun h => h)
  | [], _ :: _ => .isTrue trivial
  | _ :: _, [] => .isFalse (fun h => h)
  | x :: a, y :: b => by
    have := aLt_dec a b
    unfold aLt
    exact inferInstance
theorem aLt_irrefl : ∀ a : List Nat, ¬ aLt a a
  | [], h => h
  | x :: a, h => by
    rcases h with h | h
    · exact absurd h (Nat.lt_irrefl _)
    · exact aLt_irrefl a h.2
theorem aLt_trans : ∀ {a b c : List Nat}, aLt a b → aLt b c → aLt a c
  | [], [], _, h, _ => h.elim
  | [], _ :: _, [], _, h => h.elim
  | [], _ :: _, _ :: _, _, _ => trivial
  | _ :: _, [], _, h, _ => h.elim
  | _ :: _, _ :: _, [], _, h => h.elim
  | x :: a, y :: b, z :: c, h, k => by
    rcases h with h | ⟨rfl, h⟩
    · rcases k with k | ⟨rfl, _⟩
      · exact .inl (by omega)
      · exact .inl h
    · rcases k with k | ⟨rfl, k⟩
      · exact .inl k
      · exact .inr ⟨rfl, aLt_trans h k⟩
theorem aLt_total : ∀ (a b : List Nat), aLt a b ∨ a = b ∨ aLt b a
  | [], [] => .inr (.inl rfl)
  | [], _ :: _ => .inl trivial
  | _ :: _, [] => .inr (.inr trivial)
  | x :: a, y :: b => by
    rcases Nat.lt_trichotomy x y with h | h | h
    · exact .inl (.inl h)
    · subst h
      rcases aLt_total a b with k | k | k
      · exact .inl (.inr ⟨rfl, k⟩)
      · exact .inr (.inl (by rw [k]))
      · exact .inr (.inr (.inr ⟨rfl, k⟩))
    · exact .inr (.inr (.inl h))
theorem less_aLt : ∀ l m : List Nat, (∀ x ∈ l, x < 256) → (∀ x ∈ m, x < 256) → Op.bytesLess (l.map UInt8.ofNat) (m.map UInt8.ofNat) = decide (aLt l m)
  | [], [], _, _ => by rw [decide_eq_false (show ¬ aLt [] [] from fun h => h)]; rfl
  | [], _ :: _, _, _ => by rw [decide_eq_true (show aLt [] (_ :: _) from trivial)]; rfl
  | x :: l, [], _, _ => by rw [decide_eq_false (show ¬ aLt (x :: l) [] from fun h => h)]; rfl
  | x :: l, y :: m, hl, hm => by
    have ih := less_aLt l m (fun z hz => hl z (List.mem_cons_of_mem _ hz)) (fun z hz => hm z (List.mem_cons_of_mem _ hz))
    have hx := hl x List.mem_cons_self
    have hy := hm y List.mem_cons_self
    have e1 : (UInt8.ofNat x < UInt8.ofNat y) ↔ x < y := by
      rw [UInt8.lt_iff_toNat_lt]; simp [Nat.mod_eq_of_lt hx, Nat.mod_eq_of_lt hy]
    have e2 : (UInt8.ofNat x = UInt8.ofNat y) ↔ x = y := by
      rw [← UInt8.toNat_inj]; simp [Nat.mod_eq_of_lt hx, Nat.mod_eq_of_lt hy]
    show (decide (UInt8.ofNat x < UInt8.ofNat y) || (UInt8.ofNat x == UInt8.ofNat y && Op.bytesLess _ _)) = _
    rw [ih]
    by_cases h : x < y
    · rw [decide_eq_true (e1.2 h), Bool.true_or, decide_eq_true (show aLt (x :: l) (y :: m) from .inl h)]
    · rw [decide_eq_false (fun q => h (e1.1 q)), Bool.false_or]
      by_cases h2 : x = y
      · subst h2
        rw [beq_self_eq_true, Bool.true_and]
        by_cases h3 : aLt l m
        · rw [decide_eq_true h3, decide_eq_true (show aLt (x :: l) (x :: m) from .inr ⟨rfl, h3⟩)]
        · rw [decide_eq_false h3, decide_eq_false (fun q : aLt (x :: l) (x :: m) => q.elim (Nat.lt_irrefl _) (fun q => h3 q.2))]
      · rw [beq_eq_false_iff_ne.2 (fun q => h2 (e2.1 q)), Bool.false_and, decide_eq_false (fun q : aLt (x :: l) (y :: m) => q.elim h (fun q => h2 q.1))]
abbrev AL := List (List Nat × Nat)
/-- The cells of an account with a Balance, and nothing else, as the document has it. -/
def dC (A : List Nat) (x : Nat) : Array Value := ((av A).toList ++ (Value.int .i64 0 :: ((wcells x).toList ++ [.slice none 0 0, .slice none 0 0]))).toArray
theorem dC_size (A : List Nat) (x : Nat) : (dC A x).size = 55 := by simp [dC, arrV_size, wc_size]
theorem dC_a (A : List Nat) (x j : Nat) (h : j < 20) : (dC A x)[j]? = (av A)[j]? := by
  simp only [dC, List.getElem?_toArray]
  rw [List.getElem?_append_left (by rw [avL]; exact h), Array.getElem?_toList]
theorem dC_one (A : List Nat) (x : Nat) : (dC A x).all (·.oneCell') = true := one_app (all_list (av_one A)) (fun v hv => by
  rcases List.mem_cons.1 hv with rfl | hv
  · rfl
  · rcases List.mem_append.1 hv with hv | hv
    · exact all_list (wc_one x) v hv
    · rcases List.mem_cons.1 hv with rfl | hv
      · rfl
      · rcases List.mem_cons.1 hv with rfl | hv
        · rfl
        · cases hv)
def dCells (L : AL) : List Value := L.flatMap fun p => (dC p.1 p.2).toList
theorem dCells_len (L : AL) : (dCells L).length = L.length * 55 := by
  induction L with
  | nil => rfl
  | cons p L ih =>
    show ((dC p.1 p.2).toList ++ dCells L).length = _
    rw [List.length_append, ih, Array.length_toList, dC_size, List.length_cons, Nat.succ_mul]
    omega
theorem dCells_app (L M : AL) : dCells (L ++ M) = dCells L ++ dCells M := by simp [dCells]
theorem dCells_at (L : AL) {k : Nat} (hk : k < L.length) {j : Nat} (hj : j < 55) : (dCells L)[k * 55 + j]? = (dC L[k].1 L[k].2)[j]? := by
  induction L generalizing k with
  | nil => simp at hk
  | cons p L ih =>
    show ((dC p.1 p.2).toList ++ dCells L)[k * 55 + j]? = _
    cases k with
    | zero =>
      rw [Nat.zero_mul, Nat.zero_add, List.getElem?_append_left (by rw [Array.length_toList, dC_size]; exact hj), Array.getElem?_toList]
      rfl
    | succ k =>
      rw [List.getElem?_append_right (by rw [Array.length_toList, dC_size, Nat.succ_mul]; omega), Array.length_toList, dC_size, show (k + 1) * 55 + j - 55 = k * 55 + j by rw [Nat.succ_mul]; omega]
      exact ih (by simpa using hk)
/-- The Balance of an address among accounts. -/
def balL : AL → List Nat → Nat
  | [], _ => 0
  | p :: L, A => if p.1 = A then p.2 else balL L A
theorem balL_at : ∀ (L : AL) (A : List Nat) (k : Nat) (hk : k < L.length), (∀ j (h : j < k), (L[j]'(by omega)).1 ≠ A) → L[k].1 = A → balL L A = L[k].2
  | [], _, k, hk, _, _ => by simp at hk
  | p :: L, A, 0, hk, _, h => if_pos h
  | p :: L, A, k + 1, hk, h1, h2 => by
    have h0 : p.1 ≠ A := h1 0 (by omega)
    show (if p.1 = A then _ else _) = _
    rw [if_neg h0]
    exact balL_at L A k (by simpa using hk) (fun j hj => h1 (j + 1) (by omega)) h2
theorem balL_none : ∀ (L : AL) (A : List Nat), (∀ j (h : j < L.length), L[j].1 ≠ A) → balL L A = 0
  | [], _, _ => rfl
  | p :: L, A, h => by
    have h0 : p.1 ≠ A := h 0 (by simp)
    show (if p.1 = A then _ else _) = _
    rw [if_neg h0]
    exact balL_none L A fun j hj => h (j + 1) (by simpa using hj)
/-- A state of the document in block bR. -/
structure DocP (B : Nat) (w : World) (bR : Nat) (lv : Value) (L : AL) : Prop where
  blk : Blk w bR 54 #[lv, .slice none 0 0, .int .i64 0]
  own : w.ownsRow B 37 55 lv L.length (dCells L)
  apart : lv.ownBlock ≠ some bR
  base : B ≤ bR
  ads : ∀ p ∈ L, Ad p.1 ∧ p.2 < M256
  sorted : L.Pairwise fun p q => aLt p.1 q.1
  len : L.length ≤ 1000000
section
variable {B : Nat} {w w' : World} {bR : Nat} {lv : Value} {L : AL}
theorem DocP.far {S : Nat → Prop} (h : DocP B w bR lv L) (hT : PT S w w') (h1 : ¬ S bR) (h2 : ∀ g, lv.ownBlock = some g → ¬ S g) : DocP B w' bR lv L := by
  refine ⟨hT.blk h.blk h1, ?_, h.apart, h.base, h.ads, h.sorted, h.len⟩
  obtain ⟨g1, g2⟩ := h.own
  refine ⟨g1, g2.imp id ?_⟩
  rintro ⟨g, cap, cur, rfl, hg, hb, h3⟩
  exact ⟨g, cap, cur, rfl, hg, by rw [hT.block g (Array.getElem?_eq_some_iff.1 hb).1 (h2 g rfl)]; exact hb, h3⟩
theorem DocP.call (h : DocP B w bR lv L) (hT : Tch [] w w') : DocP B w' bR lv L := h.far (PT.nil (S := fun _ => False) hT) (fun h => h) (fun _ _ h => h)
theorem DocP.slice (h : DocP B w bR lv L) : ∃ p c, lv = .slice p L.length c ∧ L.length ≤ c ∧ (L ≠ [] → ∃ g, p = some ⟨g, 0, none⟩ ∧ g ≠ bR ∧ g < w.heap.size ∧ ∀ k (hk : k < L.length), w.rangeAt g (k * 55) (dC L[k].1 L[k].2).toList) := by
  obtain ⟨_, g2⟩ := h.own
  rcases g2 with ⟨rfl, h0⟩ | ⟨g, cap, cur, rfl, hg, hb, hn, hc, hsz, htk⟩
  · have e := List.eq_nil_of_length_eq_zero h0
    subst e
    exact ⟨none, 0, rfl, Nat.le_refl _, fun hne => absurd rfl hne⟩
  · refine ⟨_, _, rfl, hn, fun _ => ⟨g, rfl, fun e => h.apart (by rw [← e]; rfl), (Array.getElem?_eq_some_iff.1 hb).1, fun k hk j v hv => ?_⟩⟩
    have hj : j < 55 := by have := (List.getElem?_eq_some_iff.1 hv).1; rw [Array.length_toList, dC_size] at this; exact this
    rw [Array.getElem?_toList, ← dCells_at L hk hj, ← htk, List.getElem?_take] at hv
    have hlt : k * 55 + j < L.length * 55 := by have : (k + 1) * 55 ≤ L.length * 55 := Nat.mul_le_mul_right _ hk; rw [Nat.succ_mul] at this; omega
    rw [if_pos hlt, Array.getElem?_toList] at hv
    exact Blk.cell (show Blk w g 37 cur from hb) hv
end
theorem doc_ty : Try.prog.underlying 54 = some (.struct (Try.prog.fieldsOf 54)) := by kernel_rfl
theorem fa_r0 (b : Nat) (w : World) : (Instr.fieldAt 54 (.pointer (some ⟨b, 0, none⟩)) 0).run Try.prog w = .ok (.pointer (some ⟨b, 0, none⟩)) w := by kernel_rfl
theorem fa_d0 (b q : Nat) (w : World) : (Instr.fieldAt 37 (.pointer (some ⟨b, q, none⟩)) 0).run Try.prog w = .ok (.pointer (some ⟨b, q, none⟩)) w := by kernel_rfl
theorem fa_d2 (b q : Nat) (w : World) : (Instr.fieldAt 37 (.pointer (some ⟨b, q, none⟩)) 2).run Try.prog w = .ok (.pointer (some ⟨b, q + 21, none⟩)) w := by kernel_rfl
theorem accs_agg (w : World) : (isAgg 44).run Try.prog w = .ok false w := by simp [isAgg, run_underlying accts_tyY]
theorem bld_acct (A : List Nat) (w : World) : (Instr.build 37 #[(0, .agg (av A))]).run Try.prog w = .ok (.agg (dC A 0)) w := by kernel_rfl
theorem len_accs (ty : TypeId) (p : Option Addr) (n c : Nat) (w : World) : (Builtin.len_ #[44] ty #[.slice p n c]).run Try.prog w = .ok (.int .i64 (n : Int)) w := by
  simp [Builtin.len_, run_underlying accts_tyY, goInt, Result.andThen, Builtin.lenOf]
section
variable {o : Oper} {a : Act} {w w' : World}
theorem x_lenA {p : Option Addr} {n c : Nat} (xo : Operand) (ho : o.op = .call { callee := .builtin .len, args := #[xo], argTypes := #[44] }) (hx : a.eval xo = .slice p n c) : (execOp a.eval o).run Try.prog w = .ok (.value (.int .i64 (n : Int))) w := by
  unfold execOp
  simp [ho, resolve, invoke, builtin, hx, len_accs]
theorem x_addI {m n s : Int} (he : IntKind.i64.wrap (m + n) = s) (ty yt : TypeId) (xo yo : Operand) (ho : o.op = .binOp .add ty xo yo yt) (hxe : a.eval xo = .int .i64 m) (hye : a.eval yo = .int .i64 n) : (execOp a.eval o).run Try.prog w = .ok (.value (.int .i64 s)) w := by
  unfold execOp; simp only [ho, hxe, hye]; show Sem.run _ _ w = _; simp [eqGuard, binOp, Op.intArith, he]
end
theorem dC_rangeA {w : World} {g q x : Nat} {A : List Nat} (h : w.rangeAt g q (dC A x).toList) : w.rangeAt g q (av A).toList := fun j v hv => by
  have hj : j < 20 := by have := (List.getElem?_eq_some_iff.1 hv).1; rw [avL] at this; exact this
  exact h j v (by rw [Array.getElem?_toList] at hv ⊢; rw [dC_a A x j hj]; exact hv)
theorem range_tch {w w' : World} {g q : Nat} {l : List Value} (h : w.rangeAt g q l) (hg : g < w.heap.size) (hT : Tch [] w w') : w'.rangeAt g q l := fun j v hv => (hT.cell (p := ⟨g, q + j, none⟩) hg (by simp)).trans (h j v hv)
theorem acct_zeroD : (Try.prog.info? 37).bind (·.zero) = some (.agg (dC [] 0)) := by kernel_rfl
/-- Get. -/
theorem rget_any (B : Nat) (w : World) (bR : Nat) (lv : Value) (L : AL) (A : List Nat) (h : DocP B w bR lv L) (hA : Ad A) :
    Calls Try.prog 12 #[.pointer (some ⟨bR, 0, none⟩), .agg (av A)] w fun e w' => e = .returned (.agg (dC A (balL L A))) ∧ Tch [] w w' := by
  have H := Lib.hid h
  have HA := Lib.hid hA
  obtain ⟨p, c, hlv, hcap, hrow⟩ := h.slice
  have HR := Lib.hid hrow
  obtain ⟨n, hn⟩ : ∃ n, n = L.length := ⟨_, rfl⟩
  have HL := Lib.hid h.len
  have HN := Lib.hid hn
  subst hlv
  rw [← hn] at hcap
  have hBR := h.blk
  rw [← hn] at hBR
  clear h hA hrow hcap
  have hS := St.start w
  go_enter Try.func12, Try.ntmps12
  go_wp2_with (first
    | (refine st_box (L := []) hS rfl 23 _ rfl rfl ?_; clear hS; intro w1 b3 hS)
    | (refine st_new (L := [(b3, 23, av A)]) hS rfl 37 rfl acct_zeroD ?_; clear hS; intro w2 b4 hS))
  go_loopw [5] (fun i wr => ∃ k : Nat, i = .int .i64 (k : Int) ∧ k ≤ n ∧ Hid (∀ j (h : j < k) (h' : j < L.length), L[j].1 ≠ A) ∧ St [] w wr [(b4, 37, dC [] 0), (b3, 23, av A)]) (fun i _ => n - (intOf i).toNat)
  case atStart => exact ⟨0, rfl, Nat.zero_le _, Lib.hid (fun j h => by omega), hS⟩
  case round =>
    clear hS
    obtain ⟨k, rfl, hkn, HK, hS⟩ := hrel
    have hT := hS.frame
    have hB : ∀ u, Tch [] wr u → Blk u bR 54 #[.slice p n c, .slice none 0 0, .int .i64 0] := fun u hu => (hT.trans hu).blk hBR (by simp)
    have F3 : ∀ u, Tch [] wr u → Blk u b3 23 (av A) := fun u hu => hu.blk (hS.get (.tail .head)) (by simp)
    go_upto_region 2 with (fail)
    try simp only [Act.put, List.setIfInBounds_toArray, List.set_cons_zero, List.set_cons_succ]
    refine k_seq (C := fun w' => w' = wr) rfl ?_
    refine k_in (v := .int .i64 (k : Int)) rfl (fun w' hw' => x_val _ (.inl rfl) rfl) ?_; try simp only [Act.put, List.setIfInBounds_toArray, List.set_cons_zero, List.set_cons_succ]
    refine k_in (v := .pointer (some ⟨bR, 0, none⟩)) rfl (fun w' hw' => x_val _ (.inl rfl) rfl) ?_; try simp only [Act.put, List.setIfInBounds_toArray, List.set_cons_zero, List.set_cons_succ]
    refine k_in (v := .pointer (some ⟨bR, 0, none⟩)) rfl (fun w' hw' => x_nilck _ rfl rfl) ?_; try simp only [Act.put, List.setIfInBounds_toArray, List.set_cons_zero, List.set_cons_succ]
    refine k_in (v := .pointer (some ⟨bR, 0, none⟩)) rfl (fun w' hw' => x_fa _ _ _ rfl rfl (fa_r0 _ _)) ?_; try simp only [Act.put, List.setIfInBounds_toArray, List.set_cons_zero, List.set_cons_succ]
    refine k_in (v := .slice p n c) rfl (fun w' hw' => by subst hw'; exact x_cell _ _ rfl rfl ((hB _ (Tch.refl _ _)).cell rfl) accs_agg) ?_; try simp only [Act.put, List.setIfInBounds_toArray, List.set_cons_zero, List.set_cons_succ]
    refine k_in (v := .int .i64 (n : Int)) rfl (fun w' hw' => x_lenA _ rfl rfl) ?_; try simp only [Act.put, List.setIfInBounds_toArray, List.set_cons_zero, List.set_cons_succ]
    by_cases hlt : k < n
    · have hd : decide ((k : Int) < (n : Int)) = true := decide_eq_true (by omega)
      have hkL : k < L.length := by have := HN.out; omega
      obtain ⟨g, rfl, hgne, hglt, hcs⟩ := HR.out (fun e => by rw [e] at hkL; simp at hkL)
      have hck := hcs k hkL
      have hcu : ∀ u, Tch [] wr u → u.rangeAt g (k * 55) (dC L[k].1 L[k].2).toList := fun u hu => range_tch hck hglt (hT.trans hu)
      obtain ⟨Y, hY⟩ : ∃ Y, Y = L[k].1 := ⟨_, rfl⟩
      obtain ⟨y, hy⟩ : ∃ y, y = L[k].2 := ⟨_, rfl⟩
      have hYA : Ad Y := by rw [hY]; exact (H.out.ads _ (List.getElem_mem hkL)).1
      rw [← hY, ← hy] at hcu
      have HY := Lib.hid (And.intro hY hy)
      clear hcs hck hY hy
      refine k_in (v := .bool true) rfl (fun w' hw' => x_lssI hd _ _ _ _ rfl rfl rfl) ?_; try simp only [Act.put, List.setIfInBounds_toArray, List.set_cons_zero, List.set_cons_succ]
      refine k_end ?_
      intro w2 hw2
      subst hw2
      clear hd
      go_upto_region 4 with (fail)
      try simp only [Act.put, List.setIfInBounds_toArray, List.set_cons_zero, List.set_cons_succ]
      refine wp_region_held_drew (S := fun w' => Tch [] w2 w') (by kernel_rfl) ((Tch.refl _ _).drew) (fun hC => ?_)
      have hD0 : Tch [] w2 w2.drew := (Tch.refl [] w2).drew
      have hSd := hS.drew
      generalize World.drew w2 = u0 at hC hD0 hSd ⊢
      refine held_in (v := .pointer (some ⟨bR, 0, none⟩)) 0 rfl (by kernel_rfl) (by kernel_rfl) (by kernel_rfl) (fun _ _ _ h => h) hC rfl (fun w' hw' => x_val _ (.inl rfl) rfl) ?_; try simp only [Act.put, List.setIfInBounds_toArray, List.set_cons_zero, List.set_cons_succ]
      refine held_in (v := .pointer (some ⟨bR, 0, none⟩)) 1 rfl (by kernel_rfl) (by kernel_rfl) (by kernel_rfl) (fun _ _ _ h => h) hC rfl (fun w' hw' => x_nilck _ rfl rfl) ?_; try simp only [Act.put, List.setIfInBounds_toArray, List.set_cons_zero, List.set_cons_succ]
      refine held_in (v := .pointer (some ⟨bR, 0, none⟩)) 2 rfl (by kernel_rfl) (by kernel_rfl) (by kernel_rfl) (fun _ _ _ h => h) hC rfl (fun w' hw' => x_fa _ _ _ rfl rfl (fa_r0 _ _)) ?_; try simp only [Act.put, List.setIfInBounds_toArray, List.set_cons_zero, List.set_cons_succ]
      refine held_in (v := .slice (some ⟨g, 0, none⟩) n c) 3 rfl (by kernel_rfl) (by kernel_rfl) (by kernel_rfl) (fun _ _ _ h => h) hC rfl (fun w' hw' => x_cell _ _ rfl rfl ((hB _ hw').cell rfl) accs_agg) ?_; try simp only [Act.put, List.setIfInBounds_toArray, List.set_cons_zero, List.set_cons_succ]
      refine held_in (v := .int .i64 (k : Int)) 4 rfl (by kernel_rfl) (by kernel_rfl) (by kernel_rfl) (fun _ _ _ h => h) hC rfl (fun w' hw' => x_val _ (.inl rfl) rfl) ?_; try simp only [Act.put, List.setIfInBounds_toArray, List.set_cons_zero, List.set_cons_succ]
      refine held_in (v := .pointer (some ⟨g, 0 + k * 55, none⟩)) 5 rfl (by kernel_rfl) (by kernel_rfl) (by kernel_rfl) (fun _ _ _ h => h) hC rfl (fun w' hw' => x_idxS _ _ rfl rfl rfl accts_tyY acct_sizeY hlt) ?_; try simp only [Act.put, List.setIfInBounds_toArray, List.set_cons_zero, List.set_cons_succ]
      refine held_in (v := .pointer (some ⟨g, 0 + k * 55, none⟩)) 6 rfl (by kernel_rfl) (by kernel_rfl) (by kernel_rfl) (fun _ _ _ h => h) hC rfl (fun w' hw' => x_fa _ _ _ rfl rfl (fa_d0 _ _ _)) ?_; try simp only [Act.put, List.setIfInBounds_toArray, List.set_cons_zero, List.set_cons_succ]
      refine held_in (v := .agg (av Y)) 7 rfl (by kernel_rfl) (by kernel_rfl) (by kernel_rfl) (fun _ _ _ h => h) hC rfl (fun w' hw' => x_ldMid _ rfl rfl (by rw [Nat.zero_add]; exact dC_rangeA (hcu _ hw')) addr_tyY rfl (by rw [arrV_size]; exact addr_sizeY)) ?_; try simp only [Act.put, List.setIfInBounds_toArray, List.set_cons_zero, List.set_cons_succ]
      refine held_in (v := .agg (av A)) 8 rfl (by kernel_rfl) (by kernel_rfl) (by kernel_rfl) (fun _ _ _ h => h) hC rfl (fun w' hw' => x_ld _ rfl rfl (F3 _ hw') addr_tyY rfl (by rw [arrV_size]; exact addr_sizeY)) ?_; try simp only [Act.put, List.setIfInBounds_toArray, List.set_cons_zero, List.set_cons_succ]
      by_cases he : Y = A
      · have hd : decide (Y = A) = true := decide_eq_true he
        have HE := Lib.hid he
        clear he
        refine held_in (v := .bool true) 9 rfl (by kernel_rfl) (by kernel_rfl) (by kernel_rfl) (fun _ _ _ h => h) hC rfl (fun w' hw' => x_eqAv hYA HA.out hd _ _ _ rfl rfl rfl) ?_; try simp only [Act.put, List.setIfInBounds_toArray, List.set_cons_zero, List.set_cons_succ]
        refine wpAnyH_done (by kernel_rfl) ?_ _
        clear hd
        go_upto_region 5 with (fail)
        try simp only [Act.put, List.setIfInBounds_toArray, List.set_cons_zero, List.set_cons_succ]
        refine wp_region_lit ?_
        refine st_x (v := .pointer (some ⟨bR, 0, none⟩)) rfl (x_val _ (.inl rfl) rfl) ?_; try simp only [Act.put, List.setIfInBounds_toArray, List.set_cons_zero, List.set_cons_succ]
        refine st_x (v := .pointer (some ⟨bR, 0, none⟩)) rfl (x_nilck _ rfl rfl) ?_; try simp only [Act.put, List.setIfInBounds_toArray, List.set_cons_zero, List.set_cons_succ]
        refine st_x (v := .pointer (some ⟨bR, 0, none⟩)) rfl (x_fa _ _ _ rfl rfl (fa_r0 _ _)) ?_; try simp only [Act.put, List.setIfInBounds_toArray, List.set_cons_zero, List.set_cons_succ]
        refine st_x (v := .slice (some ⟨g, 0, none⟩) n c) rfl (x_cell _ _ rfl rfl ((hB _ hC).cell rfl) accs_agg) ?_; try simp only [Act.put, List.setIfInBounds_toArray, List.set_cons_zero, List.set_cons_succ]
        refine st_x (v := .int .i64 (k : Int)) rfl (x_val _ (.inl rfl) rfl) ?_; try simp only [Act.put, List.setIfInBounds_toArray, List.set_cons_zero, List.set_cons_succ]
        refine st_x (v := .pointer (some ⟨g, 0 + k * 55, none⟩)) rfl (x_idxS _ _ rfl rfl rfl accts_tyY acct_sizeY hlt) ?_; try simp only [Act.put, List.setIfInBounds_toArray, List.set_cons_zero, List.set_cons_succ]
        refine st_x (v := .agg (dC Y y)) rfl (x_ldMid _ rfl rfl (by rw [Nat.zero_add]; exact hcu _ hC) acct_tyY rfl (by rw [dC_size]; exact acct_sizeY)) ?_; try simp only [Act.put, List.setIfInBounds_toArray, List.set_cons_zero, List.set_cons_succ]
        refine st_store (b := b4) (c' := dC Y y) hSd rfl 37 _ _ rfl rfl rfl .head acct_sizeY (dC_size _ _) (dC_size _ _) (dC_one _ _) ?_; intro w3 hS3; try simp only [Act.put, List.setIfInBounds_toArray, List.set_cons_zero, List.set_cons_succ]
        refine st_end14 ?_
        go_wp2
        have hbal : balL L A = y := by rw [HY.out.2]; exact balL_at L A k hkL (fun j hj => HK.out j hj _) (HY.out.1.symm.trans HE.out)
        exact st_post hS3 4 37 rfl rfl rfl .head acct_tyY rfl acct_sizeY (dC_size _ _) (fun hT => ⟨by rw [hbal, HE.out], hT⟩)
      · have hd : decide (Y = A) = false := decide_eq_false he
        have HE := Lib.hid he
        clear he
        refine held_in (v := .bool false) 9 rfl (by kernel_rfl) (by kernel_rfl) (by kernel_rfl) (fun _ _ _ h => h) hC rfl (fun w' hw' => x_eqAv hYA HA.out hd _ _ _ rfl rfl rfl) ?_; try simp only [Act.put, List.setIfInBounds_toArray, List.set_cons_zero, List.set_cons_succ]
        refine wpAnyH_done (by kernel_rfl) ?_ _
        clear hd
        go_upto_region 3 with (fail)
        try simp only [Act.put, List.setIfInBounds_toArray, List.set_cons_zero, List.set_cons_succ]
        refine wp_region_lit ?_
        refine st_x (v := .int .i64 (k : Int)) rfl (x_val _ (.inl rfl) rfl) ?_; try simp only [Act.put, List.setIfInBounds_toArray, List.set_cons_zero, List.set_cons_succ]
        refine st_x (v := .int .i64 ((k + 1 : Nat) : Int)) rfl (x_addI (by have := HL.out; have := HN.out; rw [IntKind.wrap_i64]; omega) _ _ _ _ rfl rfl rfl) ?_; try simp only [Act.put, List.setIfInBounds_toArray, List.set_cons_zero, List.set_cons_succ]
        refine st_x (v := .int .i64 ((k + 1 : Nat) : Int)) rfl (x_val _ (.inr rfl) rfl) ?_; try simp only [Act.put, List.setIfInBounds_toArray, List.set_cons_zero, List.set_cons_succ]
        refine st_end14 ?_
        go_wp2
        go_roundw
        case rel => exact ⟨k + 1, rfl, hlt, Lib.hid (fun j hj hj' => by
          by_cases e : j = k
          · subst e; rw [← HY.out.1]; exact HE.out
          · exact HK.out j (by omega) hj'), hSd⟩
        case measure => simp [intOf]; omega
    · have hd : decide ((k : Int) < (n : Int)) = false := decide_eq_false (by omega)
      have hkn2 : k = n := by omega
      have HKN := Lib.hid hkn2
      refine k_in (v := .bool false) rfl (fun w' hw' => x_lssI hd _ _ _ _ rfl rfl rfl) ?_; try simp only [Act.put, List.setIfInBounds_toArray, List.set_cons_zero, List.set_cons_succ]
      refine k_end ?_
      intro w2 hw2
      subst hw2
      clear hd hkn2
      go_upto_region 6 with (fail)
      try simp only [Act.put, List.setIfInBounds_toArray, List.set_cons_zero, List.set_cons_succ]
      refine wp_region_lit ?_
      refine st_x (v := .agg (av A)) rfl (x_ld _ rfl rfl (F3 _ (Tch.refl _ _)) addr_tyY rfl (by rw [arrV_size]; exact addr_sizeY)) ?_; try simp only [Act.put, List.setIfInBounds_toArray, List.set_cons_zero, List.set_cons_succ]
      refine st_x (v := .agg (dC A 0)) rfl (x_bld (vals := #[(0, .agg (av A))]) rfl (by simp only [List.map_toArray, List.map_cons, List.map_nil]; rfl) (bld_acct _ _)) ?_; try simp only [Act.put, List.setIfInBounds_toArray, List.set_cons_zero, List.set_cons_succ]
      refine st_store (b := b4) (c' := dC A 0) hS rfl 37 _ _ rfl rfl rfl .head acct_sizeY (dC_size _ _) (dC_size _ _) (dC_one _ _) ?_; intro w3 hS3; try simp only [Act.put, List.setIfInBounds_toArray, List.set_cons_zero, List.set_cons_succ]
      refine st_end14 ?_
      go_wp2
      have hbal : balL L A = 0 := balL_none L A fun j hj => HK.out j (by have := HKN.out; have := HN.out; omega) hj
      exact st_post hS3 4 37 rfl rfl rfl .head acct_tyY rfl acct_sizeY (dC_size _ _) (fun hT => ⟨by rw [hbal], hT⟩)
end Go.Proofs.Ytklpcppdjcedpaa
