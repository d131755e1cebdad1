/- MemCosts: what words cost, and that a memory that grows step by step costs as much as at once. -/
import Derived.Test.YtlliidfkjlmadaaIJ
import Derived.Test.YtlliidfkjlmadaaB3
set_option linter.unusedVariables false
set_option linter.unusedSimpArgs false
namespace Go.Proofs.Ytlliidfkjlmadaa
open Go.RowKit
set_option maxRecDepth 100000
set_option maxHeartbeats 8000000

/-- A value that is a slice of these integers. -/
def RdZ (w : World) (v : Value) (L : List Int) : Prop := ∃ p c, v = .slice p L.length c ∧ (L ≠ [] → ∃ b o, p = some ⟨b, o, none⟩ ∧ b < w.heap.size ∧ ∀ i, i < L.length → w.cell? ⟨b, o + i, none⟩ = some (.int .i64 (L.getD i 0)))
section
variable {o : Oper} {a : Act} {w : World}
theorem x_idxIO {b off n c k : Nat} (x y : Operand) (ho : o.op = .indexAddr 49 x y) (hx : a.eval x = .slice (some ⟨b, off, none⟩) n c) (hy : a.eval y = .int .i64 (k : Int)) (hj : k < n) : (execOp a.eval o).run Try.prog w = .ok (.value (.pointer (some ⟨b, off + k, none⟩))) w := by
  have hadd : (⟨b, off, none⟩ : Addr).add k = ⟨b, off + k, none⟩ := by unfold Addr.add; split <;> simp_all
  unfold execOp
  simp [ho, hx, hy, Instr.indexAt, run_underlying ints_ty, Instr.sureAddr, asIntOf, sizeOf_one int_sizeI, hj, hadd]
theorem x_and {m s : Int} (xo : Operand) {ty yt : TypeId} (ho : o.op = .binOp .and ty xo (.const (.int .i64 4095)) yt) (hx : a.eval xo = .int .i64 m) (he : bits BinOp.and IntKind.i64 m 4095 = s) : (execOp a.eval o).run Try.prog w = .ok (.value (.int .i64 s)) w := by
  unfold execOp; simp only [ho, hx]; show Sem.run _ _ w = _
  have e : a.eval (.const (.int .i64 4095)) = .int .i64 4095 := rfl
  simp [e, eqGuard, binOp, intBits_and, he]
theorem x_addI {m n s : Int} (xo yo : Operand) {ty yt : TypeId} (ho : o.op = .binOp .add ty xo yo yt) (hx : a.eval xo = .int .i64 m) (hy : a.eval yo = .int .i64 n) (he : IntKind.i64.wrap (m + n) = s) : (execOp a.eval o).run Try.prog w = .ok (.value (.int .i64 s)) w := by
  unfold execOp; simp only [ho, hx, hy]; show Sem.run _ _ w = _; simp [eqGuard, binOp, Op.intArith, he]
end
theorem int_and4095 (n : Int) : bits BinOp.and IntKind.i64 n 4095 = n % 4096 := by
  have h127 : (BitVec.ofInt 64 4095).toNat = 2 ^ 12 - 1 := by decide
  have key : (BitVec.ofInt 64 n &&& BitVec.ofInt 64 4095).toNat = (n % ((2 ^ 64 : Nat) : Int)).toNat % 2 ^ 12 := by
    rw [BitVec.toNat_and, BitVec.toNat_ofInt, h127, Nat.and_two_pow_sub_one_eq_mod]
  show IntKind.i64.wrap ((BitVec.ofInt 64 n &&& BitVec.ofInt 64 4095).toNat : Nat) = n % 4096
  rw [key, IntKind.wrap_i64]
  omega
/-- A memory of so many words, all noughts. -/
def zmem (m : Nat) : List Nat := List.replicate (wds m * 32) 0
theorem zmem_len (m : Nat) : (zmem m).length = wds m * 32 := List.length_replicate
theorem wds_mul (m : Nat) : wds (m * 32) = m := by unfold wds; omega
theorem wds_le {m n : Nat} (h : m ≤ n) : wds m ≤ wds n := by unfold wds; omega
theorem grow_zmem (m n : Nat) (hn : n ≤ 1048576) : growL (zmem m) (wof 0) (wof (n : Int)) = zmem (max n m) ∧ growG (zmem m) (wof 0) (wof (n : Int)) = costN (wds (max n m)) - costN (wds m) := by
  have hmx : wds (max n m) = max (wds n) (wds m) := by
    rcases Nat.le_total n m with h | h
    · rw [Nat.max_eq_right h, Nat.max_eq_right (wds_le h)]
    · rw [Nat.max_eq_left h, Nat.max_eq_left (wds_le h)]
  rw [growL_wof _ n hn, growG_wof _ n hn, zmem_len, wds_mul, hmx]
  refine ⟨?_, rfl⟩
  unfold zmem
  rw [List.replicate_append_replicate, hmx]
  congr 1
  omega
theorem zmem_zero : zmem 0 = [] := rfl
theorem costs_walk (n : Int) (v : Value) (L : List Int) (w : World) (hL : ∀ z ∈ L, -9223372036854775808 ≤ z ∧ z ≤ 9223372036854775807) (hv : RdZ w v L) :
    Calls Try.prog 4 #[.int .i64 n, v] w fun e w' => e = .returned (.bool true) ∧ Tch [] w w' := by
  obtain ⟨p, c, rfl, hr⟩ := hv
  by_cases h1 : 60 < L.length
  · have h1' : (60 : Int) < (L.length : Int) := by omega
    clear hr hL
    go_enter Try.func4, Try.ntmps4
    go_upto_region 2 with (go_at_call 8; refine (alive13 _).mono ?_; rintro e w1 ⟨rfl, hT1⟩)
    try simp only [Act.put, List.setIfInBounds_toArray, List.set_cons_zero, List.set_cons_succ]
    refine k_seq (C := fun w' => Tch [] w w') hT1 ?_
    refine k_val (v := .bool true) rfl _ (.inl rfl) rfl ?_; try simp only [Act.put, List.setIfInBounds_toArray, List.set_cons_zero, List.set_cons_succ]
    refine k_notV (s := true) (t := false) rfl _ _ rfl rfl rfl ?_; try simp only [Act.put, List.setIfInBounds_toArray, List.set_cons_zero, List.set_cons_succ]
    refine k_val (v := .bool false) rfl _ (.inl rfl) rfl ?_; try simp only [Act.put, List.setIfInBounds_toArray, List.set_cons_zero, List.set_cons_succ]
    refine k_val (v := .slice p L.length c) rfl _ (.inl rfl) rfl ?_; try simp only [Act.put, List.setIfInBounds_toArray, List.set_cons_zero, List.set_cons_succ]
    refine k_lenI (p := p) (n := L.length) (c := c) rfl _ rfl rfl ?_; try simp only [Act.put, List.setIfInBounds_toArray, List.set_cons_zero, List.set_cons_succ]
    refine k_gtr (m := (L.length : Int)) (n := 60) (t := true) rfl _ _ _ rfl rfl rfl (decide_eq_true (by omega)) ?_; try simp only [Act.put, List.setIfInBounds_toArray, List.set_cons_zero, List.set_cons_succ]
    refine k_pickF (t := true) rfl _ _ _ rfl rfl rfl ?_; try simp only [Act.put, List.setIfInBounds_toArray, List.set_cons_zero, List.set_cons_succ]
    refine k_end ?_
    intro w2 hT2
    go_wp2
    go_ret
    exact ⟨rfl, hT2⟩
  have h1' : ¬ (60 : Int) < (L.length : Int) := by omega
  have HR := Lib.hid hr
  have HL := Lib.hid hL
  clear hr hL
  go_enter Try.func4, Try.ntmps4
  go_upto_region 2 with (go_at_call 8; refine (alive13 _).mono ?_; rintro e w1 ⟨rfl, hT1⟩)
  try simp only [Act.put, List.setIfInBounds_toArray, List.set_cons_zero, List.set_cons_succ]
  refine k_seq (C := fun w' => Tch [] w w') hT1 ?_
  refine k_val (v := .bool true) rfl _ (.inl rfl) rfl ?_; try simp only [Act.put, List.setIfInBounds_toArray, List.set_cons_zero, List.set_cons_succ]
  refine k_notV (s := true) (t := false) rfl _ _ rfl rfl rfl ?_; try simp only [Act.put, List.setIfInBounds_toArray, List.set_cons_zero, List.set_cons_succ]
  refine k_val (v := .bool false) rfl _ (.inl rfl) rfl ?_; try simp only [Act.put, List.setIfInBounds_toArray, List.set_cons_zero, List.set_cons_succ]
  refine k_val (v := .slice p L.length c) rfl _ (.inl rfl) rfl ?_; try simp only [Act.put, List.setIfInBounds_toArray, List.set_cons_zero, List.set_cons_succ]
  refine k_lenI (p := p) (n := L.length) (c := c) rfl _ rfl rfl ?_; try simp only [Act.put, List.setIfInBounds_toArray, List.set_cons_zero, List.set_cons_succ]
  refine k_gtr (m := (L.length : Int)) (n := 60) (t := false) rfl _ _ _ rfl rfl rfl (decide_eq_false (by omega)) ?_; try simp only [Act.put, List.setIfInBounds_toArray, List.set_cons_zero, List.set_cons_succ]
  refine k_pickF (t := false) rfl _ _ _ rfl rfl rfl ?_; try simp only [Act.put, List.setIfInBounds_toArray, List.set_cons_zero, List.set_cons_succ]
  refine k_end ?_
  clear hT1
  intro w2 hT2
  have hS := (St.start w).call hT2
  clear h1' hT2
  go_upto_region 9 with (first
    | (have _t := b1; clear _t; refine st_new hS rfl 26 rfl memP_zero ?_; clear hS; intro w4 b2 hS)
    | (refine st_new hS rfl 26 rfl memP_zero ?_; clear hS; intro w3 b1 hS))
  have hb1 : w.heap.size ≤ b1 := (hS.own (.tail .head)).elim id (fun h => by simp at h)
  have hb2 : w.heap.size ≤ b2 := (hS.own .head).elim id (fun h => by simp at h)
  have hM1 : MemIn w.heap.size 26 w4 b1 (.slice none 0 0) (zmem 0) := RowIn.new (L := []) (hS.get (.tail .head)) hb1
  have hM2 : MemIn w.heap.size 26 w4 b2 (.slice none 0 0) [] := RowIn.new (L := []) (hS.get .head) hb2
  have hb12 : b2 ∉ fpr b1 (.slice none 0 0) := by
    intro h
    have := mem_fpr.1 h
    rcases this with h | h
    · exact hS.apart2 h
    · cases h
  have hT4 := hS.frame
  clear hS
  have hc0 : costN (wds 0) = 0 := by decide
  go_loopw [8, 9, 10] (fun s mo i wr => ∃ (k m : Nat), i = .int .i64 (k : Int) ∧ k ≤ L.length ∧ m ≤ 4095 ∧ mo = .int .i64 (m : Int) ∧ s = .int .i64 ((costN (wds m) : Nat) : Int) ∧ Hid (∃ v, MemIn w.heap.size 26 wr b1 v (zmem m) ∧ MemIn w.heap.size 26 wr b2 (.slice none 0 0) [] ∧ b2 ∉ fpr b1 v) ∧ Tch [] w wr) (fun _ _ i _ => L.length - (intOf i).toNat)
  case atStart => exact ⟨0, 0, rfl, Nat.zero_le _, Nat.zero_le _, rfl, by rw [hc0]; rfl, Lib.hid ⟨_, hM1, hM2, hb12⟩, hT4⟩
  case round =>
    clear hM1 hM2 hb12 hT4 hc0
    obtain ⟨k, mo, rfl, hk, hmo, rfl, rfl, HR0, hTr⟩ := hrel
    obtain ⟨v, hR⟩ := HR0.out
    have HM := Lib.hid hR
    clear hR HR0
    have hct : costN (wds mo) ≤ 10000000000 := Nat.le_trans (costN_mono (show wds mo ≤ 1048576 by unfold wds; omega)) (by rw [costN_top]; decide)
    by_cases hlt : k < L.length
    · have hlt' : (k : Int) < (L.length : Int) := by omega
      obtain ⟨b, o, rfl, hb, hcell⟩ := HR.out (by intro e; rw [e] at hlt; simp at hlt)
      have hz := HL.out _ (List.getElem_mem hlt)
      have hck := (hTr.cell (p := ⟨b, o + k, none⟩) hb (by simp)).trans (hcell k hlt)
      have e1 : L.getD k 0 = L[k] := by rw [List.getD_eq_getElem?_getD, List.getElem?_eq_getElem hlt]; rfl
      rw [e1] at hck
      generalize L[k] = z at *
      obtain ⟨x, hx⟩ : ∃ x : Nat, (x : Int) = z % 4096 := ⟨(z % 4096).toNat, by omega⟩
      have hand : bits BinOp.and IntKind.i64 z 4095 = (x : Int) := by rw [int_and4095, hx]
      have hx2 : x ≤ 4095 := by omega
      have HAND := Lib.hid hand
      clear hx hz e1 hcell hand
      have HO0 := Lib.hid (fun w' => rOfW_any 0 (by omega) w')
      have HOx := Lib.hid (fun w' => rOfW_any (x : Int) (by omega) w')
      have hz2 := zmem_len mo
      have hG := fun w' (h : Tch [] wr w') => grow_any w.heap.size b1 v (zmem mo) (wof 0) (wof (x : Int)) w' (HM.out.1.call h) (by rw [hz2]; unfold wds; omega) (wof_ok _) (wof_ok _)
      obtain ⟨g1, g2⟩ := grow_zmem mo x (by omega)
      rw [g1, g2, growOk_wof x (by omega)] at hG
      have hcm := costN_mono (wds_le (Nat.le_max_right x mo))
      have hct2 : costN (wds (max x mo)) ≤ 10000000000 := Nat.le_trans (costN_mono (show wds (max x mo) ≤ 1048576 by unfold wds; omega)) (by rw [costN_top]; decide)
      have hsum : IntKind.i64.wrap ((costN (wds mo) : Int) + ((costN (wds (max x mo)) - costN (wds mo) : Nat) : Int)) = ((costN (wds (max x mo)) : Nat) : Int) := by rw [IntKind.wrap_i64]; omega
      have HG := Lib.hid hG
      have HSUM := Lib.hid hsum
      have hgi : costN (wds (max x mo)) - costN (wds mo) ≤ 10000000000 := by omega
      generalize costN (wds (max x mo)) - costN (wds mo) = gi at *
      have hmx2 : max x mo ≤ 4095 := by omega
      clear hG g1 g2 hcm hz2 hsum
      generalize wv (wof 0) = c0 at *
      generalize wv (wof (x : Int)) = cx at *
      by_cases hgt : mo < x
      · have hgt' : (mo : Int) < (x : Int) := by omega
        rw [Nat.max_eq_left (by omega)] at *
        go_wp2_with (first
          | (refine st_x (v := .pointer (some ⟨b, o + k, none⟩)) rfl (x_idxIO (.tmp 31) (.tmp 32) rfl rfl rfl hlt) ?_)
          | (refine st_x (v := .int .i64 z) rfl (x_cell 3 (.tmp 33) rfl rfl hck int_aggI) ?_)
          | (refine st_x (v := .int .i64 (x : Int)) rfl (x_and (.tmp 34) rfl rfl HAND.out) ?_)
          | (have _t := w5; clear _t; go_at_call 17; go_must (refine (HOx.out _).mono ?_; rintro e w6 ⟨rfl, hT6⟩))
          | (go_at_call 17; go_must (refine (HO0.out _).mono ?_; rintro e w5 ⟨rfl, hT5⟩))
          | (go_at_call 16; go_must (refine (HG.out _ (hT5.trans hT6)).mono ?_; rintro e w7 ⟨v7, rfl, hM7, hT7⟩; have H7 := Lib.hid (And.intro hM7 hT7); clear hM7 hT7))
          | (refine st_x (v := .int .i64 _) rfl (x_addI (.tmp 47) (.tmp 48) rfl rfl rfl HSUM.out) ?_))
        have hTf := Turned.fresh_tch (hTr.trans (hT5.trans hT6)) H7.out.2 (fun y hy => (HM.out.1.lt hy).1)
        have HF := Lib.hid (⟨v7, H7.out.1, (HM.out.2.1.call (hT5.trans hT6)).far H7.out.2.tch (fun y hy hm => by
          rcases mem_fpr.1 hy with h | h
          · subst h; exact HM.out.2.2 hm
          · cases h), fun hm => by
          rcases mem_fpr.1 hm with h | h
          · exact HM.out.2.2 (mem_fpr.2 (.inl h))
          · rcases H7.out.2.fresh _ h with h | h
            · exact HM.out.2.2 (mem_fpr.2 (.inr h))
            · have h1 := (HM.out.2.1.call (hT5.trans hT6)).blk.lt
              omega⟩ : ∃ v, MemIn w.heap.size 26 w7 b1 v _ ∧ MemIn w.heap.size 26 w7 b2 (.slice none 0 0) [] ∧ b2 ∉ fpr b1 v)
        go_roundw
        case rel => exact ⟨k + 1, x, by go_num, hlt, hx2, rfl, by rfl, HF, hTf⟩
        case measure => simp [intOf]; omega
      · have hgt' : ¬ (mo : Int) < (x : Int) := by omega
        rw [Nat.max_eq_right (by omega)] at *
        go_wp2_with (first
          | (refine st_x (v := .pointer (some ⟨b, o + k, none⟩)) rfl (x_idxIO (.tmp 31) (.tmp 32) rfl rfl rfl hlt) ?_)
          | (refine st_x (v := .int .i64 z) rfl (x_cell 3 (.tmp 33) rfl rfl hck int_aggI) ?_)
          | (refine st_x (v := .int .i64 (x : Int)) rfl (x_and (.tmp 34) rfl rfl HAND.out) ?_)
          | (have _t := w5; clear _t; go_at_call 17; go_must (refine (HOx.out _).mono ?_; rintro e w6 ⟨rfl, hT6⟩))
          | (go_at_call 17; go_must (refine (HO0.out _).mono ?_; rintro e w5 ⟨rfl, hT5⟩))
          | (go_at_call 16; go_must (refine (HG.out _ (hT5.trans hT6)).mono ?_; rintro e w7 ⟨v7, rfl, hM7, hT7⟩; have H7 := Lib.hid (And.intro hM7 hT7); clear hM7 hT7))
          | (refine st_x (v := .int .i64 _) rfl (x_addI (.tmp 47) (.tmp 48) rfl rfl rfl HSUM.out) ?_))
        have hTf := Turned.fresh_tch (hTr.trans (hT5.trans hT6)) H7.out.2 (fun y hy => (HM.out.1.lt hy).1)
        have HF := Lib.hid (⟨v7, H7.out.1, (HM.out.2.1.call (hT5.trans hT6)).far H7.out.2.tch (fun y hy hm => by
          rcases mem_fpr.1 hy with h | h
          · subst h; exact HM.out.2.2 hm
          · cases h), fun hm => by
          rcases mem_fpr.1 hm with h | h
          · exact HM.out.2.2 (mem_fpr.2 (.inl h))
          · rcases H7.out.2.fresh _ h with h | h
            · exact HM.out.2.2 (mem_fpr.2 (.inr h))
            · have h1 := (HM.out.2.1.call (hT5.trans hT6)).blk.lt
              omega⟩ : ∃ v, MemIn w.heap.size 26 w7 b1 v _ ∧ MemIn w.heap.size 26 w7 b2 (.slice none 0 0) [] ∧ b2 ∉ fpr b1 v)
        go_roundw
        case rel => exact ⟨k + 1, mo, by go_num, hlt, hmo, rfl, by rfl, HF, hTf⟩
        case measure => simp [intOf]; omega
    · obtain rfl : k = L.length := by omega
      have HO0 := Lib.hid (fun w' => rOfW_any 0 (by omega) w')
      have HOx := Lib.hid (fun w' => rOfW_any (mo : Int) (by omega) w')
      have hG := fun w' (h : Tch [] wr w') => grow_any w.heap.size b2 (.slice none 0 0) (zmem 0) (wof 0) (wof (mo : Int)) w' (HM.out.2.1.call h) (by decide) (wof_ok _) (wof_ok _)
      obtain ⟨g1, g2⟩ := grow_zmem 0 mo (by omega)
      rw [g1, g2, growOk_wof mo (by omega), Nat.max_eq_left (Nat.zero_le _), show costN (wds 0) = 0 by decide, Nat.sub_zero] at hG
      have HG := Lib.hid hG
      clear hG g1 g2
      generalize wv (wof 0) = c0 at *
      generalize wv (wof (mo : Int)) = cx at *
      go_upto_region 19 with (first
        | (have _t := w5; clear _t; go_at_call 17; go_must (refine (HOx.out _).mono ?_; rintro e w6 ⟨rfl, hT6⟩))
        | (go_at_call 17; go_must (refine (HO0.out _).mono ?_; rintro e w5 ⟨rfl, hT5⟩))
        | (go_at_call 16; go_must (refine (HG.out _ (hT5.trans hT6)).mono ?_; rintro e w9 ⟨v9, rfl, hM9, hT9⟩; have H9 := Lib.hid (And.intro hM9 hT9); clear hM9 hT9)))
      have hd : ∀ y ∈ fpr b1 v, y ∉ fpr b2 (.slice none 0 0) := by
        intro y hy hm
        rcases mem_fpr.1 hm with h | h
        · subst h; exact HM.out.2.2 hy
        · cases h
      have hM1 := (HM.out.1.call (hT5.trans hT6)).far H9.out.2.tch hd
      have hTf := Turned.fresh_tch (hTr.trans (hT5.trans hT6)) H9.out.2 (fun y hy => (HM.out.2.1.lt hy).1)
      have hz1 := fun w' (h : Tch [] w9 w') => (size_any _ _ _ _ w' (hM1.call h)).mono (fun e w'' q => And.intro q.1 (q.2 ▸ h : Tch [] w9 w''))
      have hz2 := fun w' (h : Tch [] w9 w') => (size_any _ _ _ _ w' (H9.out.1.call h)).mono (fun e w'' q => And.intro q.1 (q.2 ▸ h : Tch [] w9 w''))
      rw [zmem_len] at hz1 hz2
      have HZ1 := Lib.hid hz1
      have HZ2 := Lib.hid hz2
      clear hz1 hz2 hM1 hd H9 HM HG HO0 HOx hT5 hT6 hTr
      try simp only [Act.put, List.setIfInBounds_toArray, List.set_cons_zero, List.set_cons_succ]
      refine k_seq (C := fun w' => Tch [] w9 w') (Tch.refl _ _) ?_
      refine k_val (v := .bool true) rfl _ (.inl rfl) rfl ?_; try simp only [Act.put, List.setIfInBounds_toArray, List.set_cons_zero, List.set_cons_succ]
      refine k_val (v := .bool true) rfl _ (.inl rfl) rfl ?_; try simp only [Act.put, List.setIfInBounds_toArray, List.set_cons_zero, List.set_cons_succ]
      refine k_val (v := .int .i64 ((costN (wds mo) : Nat) : Int)) rfl _ (.inl rfl) rfl ?_; try simp only [Act.put, List.setIfInBounds_toArray, List.set_cons_zero, List.set_cons_succ]
      refine k_val (v := .int .i64 ((costN (wds mo) : Nat) : Int)) rfl _ (.inl rfl) rfl ?_; try simp only [Act.put, List.setIfInBounds_toArray, List.set_cons_zero, List.set_cons_succ]
      refine k_eqlI (m := ((costN (wds mo) : Nat) : Int)) (n := ((costN (wds mo) : Nat) : Int)) (t := true) rfl _ _ _ rfl rfl rfl (decide_eq_true rfl) ?_; try simp only [Act.put, List.setIfInBounds_toArray, List.set_cons_zero, List.set_cons_succ]
      refine k_pickT (t := true) rfl _ _ _ rfl rfl rfl ?_; try simp only [Act.put, List.setIfInBounds_toArray, List.set_cons_zero, List.set_cons_succ]
      refine k_val (v := .bool true) rfl _ (.inl rfl) rfl ?_; try simp only [Act.put, List.setIfInBounds_toArray, List.set_cons_zero, List.set_cons_succ]
      refine k_val (v := .int .i64 n) rfl _ (.inl rfl) rfl ?_; try simp only [Act.put, List.setIfInBounds_toArray, List.set_cons_zero, List.set_cons_succ]
      refine k_callC1 (v := .int .i64 ((costN (capN n) : Nat) : Int)) rfl rfl rfl Try.call18 (fun w' h => (cost_any n w').mono (fun e w'' q => And.intro q.1 (q.2 ▸ h : Tch [] w9 w''))) ?_; try simp only [Act.put, List.setIfInBounds_toArray, List.set_cons_zero, List.set_cons_succ]
      refine k_val (v := .int .i64 n) rfl _ (.inl rfl) rfl ?_; try simp only [Act.put, List.setIfInBounds_toArray, List.set_cons_zero, List.set_cons_succ]
      refine k_callC1 (v := .int .i64 ((costN (capN n) : Nat) : Int)) rfl rfl rfl Try.call19 (fun w' h => (rcost_any n w').mono (fun e w'' q => And.intro q.1 (q.2 ▸ h : Tch [] w9 w''))) ?_; try simp only [Act.put, List.setIfInBounds_toArray, List.set_cons_zero, List.set_cons_succ]
      refine k_eqlI (m := ((costN (capN n) : Nat) : Int)) (n := ((costN (capN n) : Nat) : Int)) (t := true) rfl _ _ _ rfl rfl rfl (decide_eq_true rfl) ?_; try simp only [Act.put, List.setIfInBounds_toArray, List.set_cons_zero, List.set_cons_succ]
      refine k_pickT (t := true) rfl _ _ _ rfl rfl rfl ?_; try simp only [Act.put, List.setIfInBounds_toArray, List.set_cons_zero, List.set_cons_succ]
      refine k_val (v := .bool true) rfl _ (.inl rfl) rfl ?_; try simp only [Act.put, List.setIfInBounds_toArray, List.set_cons_zero, List.set_cons_succ]
      refine k_callC1 (v := .int .i64 ((wds mo * 32 : Nat) : Int)) rfl rfl rfl Try.call10 (fun w' h => HZ1.out w' h) ?_; try simp only [Act.put, List.setIfInBounds_toArray, List.set_cons_zero, List.set_cons_succ]
      refine k_callC1 (v := .int .i64 ((wds mo * 32 : Nat) : Int)) rfl rfl rfl Try.call10 (fun w' h => HZ2.out w' h) ?_; try simp only [Act.put, List.setIfInBounds_toArray, List.set_cons_zero, List.set_cons_succ]
      refine k_eqlI (m := ((wds mo * 32 : Nat) : Int)) (n := ((wds mo * 32 : Nat) : Int)) (t := true) rfl _ _ _ rfl rfl rfl (decide_eq_true rfl) ?_; try simp only [Act.put, List.setIfInBounds_toArray, List.set_cons_zero, List.set_cons_succ]
      refine k_pickT (t := true) rfl _ _ _ rfl rfl rfl ?_; try simp only [Act.put, List.setIfInBounds_toArray, List.set_cons_zero, List.set_cons_succ]
      refine k_val (v := .bool true) rfl _ (.inr rfl) rfl ?_; try simp only [Act.put, List.setIfInBounds_toArray, List.set_cons_zero, List.set_cons_succ]
      refine k_end ?_
      intro wA hTA
      go_wp2
      go_ret
      exact ⟨rfl, hTf.trans hTA⟩
end Go.Proofs.Ytlliidfkjlmadaa
