/- Pieces of bytes; asm.first: the line with which a code begins. -/
import Derived.Test.YtjbjjiibldlipaaJ2
namespace Go.Proofs.Ytjbjjiibldlipaa
open Go.RowKit

theorem sl_mid (b o n c lo hi : Nat) (h0 : lo < c) (h1 : lo ≤ hi) (h2 : hi ≤ c) (w : World) : (Instr.sliceAt 22 (.slice (some ⟨b, o, none⟩) n c) (some (.int .i64 (lo : Int))) (some (.int .i64 (hi : Int))) none).run Try.prog w = .ok (.slice (some ⟨b, o + lo, none⟩) (hi - lo) (c - lo)) w := by
  have hel : Try.prog.elem 22 = 5 := by kernel_rfl
  have ht : Try.prog.underlying 22 = some (.slice (Try.prog.elem 22)) := by rw [hel]; exact bytes_ty
  have e1 := run_sliceAt_slice (P := Try.prog) (w := w) 22 (.slice (some ⟨b, o, none⟩) n c) (some (.int .i64 (lo : Int))) (some (.int .i64 (hi : Int))) none ht
  have e2 := run_slice_lh (P := Try.prog) (w := w) 22 (some ⟨b, o, none⟩) n c ht .i64 .i64 (lo : Int) (hi : Int) (by omega) (by omega) (by omega)
  rw [e1, e2, hel, sizeOf_u8]
  have hne : ¬ c = lo := by omega
  have hne2 : ¬ (c : Int) = (lo : Int) := by omega
  simp [Result.andThen, sliced, Addr.add, hne, hne2]
  try omega
theorem sl_to (b o n c hi : Nat) (h2 : hi ≤ c) (w : World) : (Instr.sliceAt 22 (.slice (some ⟨b, o, none⟩) n c) none (some (.int .i64 (hi : Int))) none).run Try.prog w = .ok (.slice (some ⟨b, o, none⟩) hi c) w := by
  have hel : Try.prog.elem 22 = 5 := by kernel_rfl
  have ht : Try.prog.underlying 22 = some (.slice (Try.prog.elem 22)) := by rw [hel]; exact bytes_ty
  have e1 := run_sliceAt_slice (P := Try.prog) (w := w) 22 (.slice (some ⟨b, o, none⟩) n c) none (some (.int .i64 (hi : Int))) none ht
  have e2 := run_slice_h (P := Try.prog) (w := w) 22 (some ⟨b, o, none⟩) n c ht .i64 (hi : Int) (by omega) (by omega)
  rw [e1, e2, hel, sizeOf_u8]
  simp [Result.andThen, sliced, Addr.add]
/-- A piece of bytes. -/
theorem RdB.mid {w : World} {b o n c : Nat} {L : List Nat} (h : RdB w (.slice (some ⟨b, o, none⟩) n c) L) (lo hi : Nat) (h1 : lo ≤ hi) (h2 : hi ≤ n) : RdB w (.slice (some ⟨b, o + lo, none⟩) (hi - lo) (c - lo)) ((L.drop lo).take (hi - lo)) := by
  obtain ⟨p', c', e1, e2, e3, e4⟩ := h
  cases e1
  have hl : ((L.drop lo).take (hi - lo)).length = hi - lo := by rw [List.length_take, List.length_drop]; omega
  refine ⟨some ⟨b, o + lo, none⟩, c - lo, by rw [hl], by rw [hl]; omega, fun x hx => e3 x (List.mem_of_mem_drop (List.mem_of_mem_take hx)), fun hne => ⟨b, o + lo, rfl, ?_, fun i hi' => ?_⟩⟩
  · obtain ⟨b', o', h5, h6, _⟩ := e4 (by intro e; subst e; simp at hne)
    cases h5; exact h6
  · rw [hl] at hi'
    obtain ⟨b', o', h5, _, h7⟩ := e4 (by intro e; subst e; simp at h2; omega)
    cases h5
    rw [Nat.add_assoc, h7 (lo + i) (by omega)]
    simp [List.getD_eq_getElem?_getD, List.getElem?_take, List.getElem?_drop, hi']
theorem RdB.head {w : World} {v : Value} {x : Nat} {r : List Nat} (h : RdB w v (x :: r)) : ∃ b o c, v = .slice (some ⟨b, o, none⟩) (r.length + 1) c ∧ r.length + 1 ≤ c ∧ b < w.heap.size ∧ w.cell? ⟨b, o + 0, none⟩ = some (.int .u8 (x : Int)) := by
  obtain ⟨p, c, e1, e2, e3, e4⟩ := h
  obtain ⟨b, o, rfl, h6, h7⟩ := e4 (by simp)
  exact ⟨b, o, c, e1, e2, h6, h7 0 (by simp)⟩
section
variable {ops : Array Oper} {rest : List Oper} {o : Oper} {a : Act} {w : World} {Q : Exit → Act → World → Prop}
theorem st_slO {ty : TypeId} {x : Operand} {lo hi : Option Operand} {vx v : Value} {vl vh : Option Value} (hgd : o.guard = none) (ho : o.op = .slice ty x lo hi none) (hx : a.eval x = vx) (hl : lo.map a.eval = vl) (hh : hi.map a.eval = vh)
    (hr : ∀ w, (Instr.sliceAt ty vx vl vh none).run Try.prog w = .ok v w) (h : wpList Try.prog ops Q rest (a.put o.dst v) w) : wpList Try.prog ops Q (o :: rest) a w :=
  wpList_plain hgd fun K hK => by
    unfold Oper.wp execOp
    simp only [ho, hx, hl, hh, Option.map_none, Sem.run_bind, hr, Result.andThen_ok, Sem.run_pure]
    exact hK _ _ h
end
section
variable {o : Oper} {a : Act} {ops : Array Oper} {rest : List Oper} {C : World → Prop} {Q : Act → Prop}
theorem j_gtr {t : Bool} {m n : Int} (hw : Region.wanted o (yielded ops a.tmps) = true) (xo yo : Operand) (yt : TypeId) (ho : o.op = .binOp .gtr 3 xo yo yt)
    (hxe : a.eval xo = .int .i64 m) (hye : a.eval yo = .int .i64 n) (hxy : decide (n < m) = t) (h : KQ ops C Q rest (a.put o.dst (.bool t))) : KQ ops C Q (o :: rest) a :=
  k_pure hw (fun w => by unfold execOp; simp only [ho, hxe, hye]; show Sem.run _ _ w = _; simp [eqGuard, binOp, Op.intCmp, hxy]) h
end
theorem byte_text (x : Nat) : (⟨#[66, 89, 84, 69, 32]⟩ : ByteArray) ++ ⟨(txt [x]).toArray⟩ = strB (byteW ++ 32 :: txtN [x]) := by
  rw [← strB_txtN, show (⟨#[66, 89, 84, 69, 32]⟩ : ByteArray) = strB (byteW ++ [32]) from rfl, strB_append, List.append_assoc]; rfl
theorem push_text (N L : List Nat) : strB N ++ (⟨#[32]⟩ : ByteArray) ++ ⟨(txt L).toArray⟩ = strB (N ++ 32 :: txtN L) := by
  rw [← strB_txtN, show (⟨#[32]⟩ : ByteArray) = strB [32] from rfl, strB_append, strB_append, List.append_assoc]; rfl
def FirstPost (L : List Nat) (w : World) (e : Ending) (w' : World) : Prop := e = .returned (.tuple #[.string (strB (lineN L).1), .int .i64 ((lineN L).2 : Int)]) ∧ Tch [] w w'
theorem fp_byte {x : Nat} {r : List Nat} {w w' : World} (h : nm x = [] ∨ r.length < ownN x) (hT : Tch [] w w') : FirstPost (x :: r) w (.returned (.tuple #[.string ((⟨#[66, 89, 84, 69, 32]⟩ : ByteArray) ++ ⟨(txt [x]).toArray⟩), .int .i64 1])) w' :=
  ⟨by rw [lineN_cons, if_pos h, byte_text]; rfl, hT⟩
theorem fp_bare {x : Nat} {r : List Nat} {w w' : World} (h : ¬ (nm x = [] ∨ r.length < ownN x)) (h0 : ownN x = 0) (hT : Tch [] w w') : FirstPost (x :: r) w (.returned (.tuple #[.string (strB (nm x)), .int .i64 1])) w' :=
  ⟨by rw [lineN_cons, if_neg h, if_pos h0]; rfl, hT⟩
theorem fp_push {x : Nat} {r : List Nat} {w w' : World} (h : ¬ (nm x = [] ∨ r.length < ownN x)) (h0 : ownN x ≠ 0) (hT : Tch [] w w') : FirstPost (x :: r) w (.returned (.tuple #[.string (strB (nm x) ++ (⟨#[32]⟩ : ByteArray) ++ ⟨(txt (r.take (ownN x))).toArray⟩), .int .i64 ((1 + ownN x : Nat) : Int)])) w' :=
  ⟨by rw [lineN_cons, if_neg h, if_neg h0, push_text], hT⟩
set_option maxHeartbeats 2000000 in
set_option maxRecDepth 100000 in
theorem first_any (v : Value) (x : Nat) (r : List Nat) (w : World) (hv : RdB w v (x :: r)) (hm : r.length ≤ 1000000) :
    Calls Try.prog 13 #[v] w (FirstPost (x :: r) w) := by
  have hx : x < 256 := hv.choose_spec.choose_spec.2.2.1 x List.mem_cons_self
  have HV := Lib.hid hv
  obtain ⟨b, o, c, rfl, hc, hbw, hcell⟩ := hv.head
  clear hv
  have ho := ownN_le x
  have HN := Lib.hid (nm_lt ⟨x, hx⟩)
  have hnl : (strB (nm x)).size ≤ 14 := by rw [strB_size]; exact (nm_short ⟨x, hx⟩).1
  have hw1 : IntKind.i64.wrap (1 + ((ownN x : Nat) : Int)) = ((1 + ownN x : Nat) : Int) := by rw [IntKind.wrap_i64]; omega
  have HX1 : Hid (∀ w', Tch [] w w' → RdB w' (.slice (some ⟨b, o, none⟩) 1 c) [x]) := Lib.hid (fun w' hT => by
    have h := (HV.out.mid 0 1 (by omega) (by omega)).tch hT (by simp)
    exact h)
  have HSL1 := Lib.hid (sl_to b o (r.length + 1) c 1 (by omega))
  have HCELL := Lib.hid hcell
  clear hcell
  go_enter Try.func13, Try.ntmps13
  go_upto_region 1 with (fail)
  refine k_region (C := fun w' => Tch [] w w') (by kernel_rfl) (by kernel_rfl) (Tch.refl [] w).drew ?_
  refine k_val (v := .slice (some ⟨b, o, none⟩) (r.length + 1) c) rfl _ (.inl rfl) rfl ?_; try simp only [Act.put, List.setIfInBounds_toArray, List.set_cons_zero, List.set_cons_succ]
  refine k_idxSl (j := 0) rfl _ _ _ rfl rfl rfl bytes_ty u8_size (by omega) ?_; try simp only [Act.put, List.setIfInBounds_toArray, List.set_cons_zero, List.set_cons_succ]
  refine k_cellC (v := .int .u8 (x : Int)) rfl _ _ rfl rfl (fun w' h => (h.cell (p := ⟨b, o + 0, none⟩) hbw (by simp)).trans HCELL.out) u8_agg ?_; try simp only [Act.put, List.setIfInBounds_toArray, List.set_cons_zero, List.set_cons_succ]
  refine k_callC1 (v1 := .int .u8 (x : Int)) rfl rfl rfl Try.call22 (fun w' h => (name_any x hx w').mono fun e w'' h2 => ⟨h2.1, h.trans h2.2⟩) ?_; try simp only [Act.put, List.setIfInBounds_toArray, List.set_cons_zero, List.set_cons_succ]
  refine k_val (v := .slice (some ⟨b, o, none⟩) (r.length + 1) c) rfl _ (.inl rfl) rfl ?_; try simp only [Act.put, List.setIfInBounds_toArray, List.set_cons_zero, List.set_cons_succ]
  refine k_idxSl (j := 0) rfl _ _ _ rfl rfl rfl bytes_ty u8_size (by omega) ?_; try simp only [Act.put, List.setIfInBounds_toArray, List.set_cons_zero, List.set_cons_succ]
  refine k_cellC (v := .int .u8 (x : Int)) rfl _ _ rfl rfl (fun w' h => (h.cell (p := ⟨b, o + 0, none⟩) hbw (by simp)).trans HCELL.out) u8_agg ?_; try simp only [Act.put, List.setIfInBounds_toArray, List.set_cons_zero, List.set_cons_succ]
  refine k_callC1 (v1 := .int .u8 (x : Int)) rfl rfl rfl Try.call23 (fun w' h => (afollow_any x w' hx).mono fun e w'' h2 => ⟨h2.1, h2.2 ▸ h⟩) ?_; try simp only [Act.put, List.setIfInBounds_toArray, List.set_cons_zero, List.set_cons_succ]
  refine k_add (m := 1) (n := ((ownN x : Nat) : Int)) (s := ((1 + ownN x : Nat) : Int)) rfl _ _ _ _ rfl rfl rfl hw1 ?_; try simp only [Act.put, List.setIfInBounds_toArray, List.set_cons_zero, List.set_cons_succ]
  refine k_val (v := .string (strB (nm x))) rfl _ (.inr rfl) rfl ?_; try simp only [Act.put, List.setIfInBounds_toArray, List.set_cons_zero, List.set_cons_succ]
  refine k_val (v := .int .i64 ((1 + ownN x : Nat) : Int)) rfl _ (.inr rfl) rfl ?_; try simp only [Act.put, List.setIfInBounds_toArray, List.set_cons_zero, List.set_cons_succ]
  refine k_end ?_
  intro w5 hT5
  by_cases h0 : nm x = []
  · have HP := Lib.hid (show nm x = [] ∨ r.length < ownN x from .inl h0)
    have HB := Lib.hid (show (nm x == []) = true by rw [h0]; rfl)
    clear h0
    go_upto_region 2 with (fail)
    refine k_seq (C := fun w' => Tch [] w w') hT5 ?_
    refine k_val (v := .string (strB (nm x))) rfl _ (.inl rfl) rfl ?_; try simp only [Act.put, List.setIfInBounds_toArray, List.set_cons_zero, List.set_cons_succ]
    refine k_eqS (l := nm x) (m := []) (t := true) rfl _ _ _ rfl rfl rfl HN.out (by simp) HB.out ?_; try simp only [Act.put, List.setIfInBounds_toArray, List.set_cons_zero, List.set_cons_succ]
    refine k_val (v := .bool true) rfl _ (.inl rfl) rfl ?_; try simp only [Act.put, List.setIfInBounds_toArray, List.set_cons_zero, List.set_cons_succ]
    refine k_skip rfl rfl rfl rfl rfl ?_; try simp only [Act.put, List.setIfInBounds_toArray, List.set_cons_zero, List.set_cons_succ]
    refine k_skip rfl rfl rfl rfl rfl ?_; try simp only [Act.put, List.setIfInBounds_toArray, List.set_cons_zero, List.set_cons_succ]
    refine k_skip rfl rfl rfl rfl rfl ?_; try simp only [Act.put, List.setIfInBounds_toArray, List.set_cons_zero, List.set_cons_succ]
    refine k_skip rfl rfl rfl rfl rfl ?_; try simp only [Act.put, List.setIfInBounds_toArray, List.set_cons_zero, List.set_cons_succ]
    refine k_pickT (t := true) rfl _ _ _ rfl rfl rfl ?_; try simp only [Act.put, List.setIfInBounds_toArray, List.set_cons_zero, List.set_cons_succ]
    refine k_val (v := .bool true) rfl _ (.inr rfl) rfl ?_; try simp only [Act.put, List.setIfInBounds_toArray, List.set_cons_zero, List.set_cons_succ]
    refine k_end ?_
    clear hT5
    intro w6 hT6
    have hd5 : (⟨#[66, 89, 84, 69, 32]⟩ : ByteArray).size + (⟨(txt [x]).toArray⟩ : ByteArray).size ≤ 100000000 := by
      have : (⟨(txt [x]).toArray⟩ : ByteArray).size = (txt [x]).length := rfl
      rw [this, txt_length]; exact (by decide : 5 + (2 + 2 * 1) ≤ 100000000)
    have HM := Lib.hid hd5
    clear hd5
    go_wp2_with (first
      | (refine st_slO (vl := none) (vh := some (.int .i64 ((1 : Nat) : Int))) rfl rfl rfl rfl rfl HSL1.out ?_)
      | (go_at_call 24; refine (hexText_any _ [x] _ (by simp) (HX1.out _ hT6)).mono ?_; rintro e w7 ⟨rfl, hT7⟩)
      | (refine st_addS (s := ⟨#[66, 89, 84, 69, 32]⟩) (t := ⟨(txt [x]).toArray⟩) rfl _ _ _ _ rfl rfl rfl HM.out ?_))
    go_ret2
    exact fp_byte HP.out (hT6.trans hT7)
  · have HB := Lib.hid (show (nm x == []) = false by rw [beq_eq_false_iff_ne]; exact h0)
    by_cases h1 : r.length < ownN x
    · have HP := Lib.hid (show nm x = [] ∨ r.length < ownN x from .inr h1)
      have HD := Lib.hid (show decide (((r.length + 1 : Nat) : Int) < ((1 + ownN x : Nat) : Int)) = true from decide_eq_true (by omega))
      clear h0
      go_upto_region 2 with (fail)
      refine k_seq (C := fun w' => Tch [] w w') hT5 ?_
      refine k_val (v := .string (strB (nm x))) rfl _ (.inl rfl) rfl ?_; try simp only [Act.put, List.setIfInBounds_toArray, List.set_cons_zero, List.set_cons_succ]
      refine k_eqS (l := nm x) (m := []) (t := false) rfl _ _ _ rfl rfl rfl HN.out (by simp) HB.out ?_; try simp only [Act.put, List.setIfInBounds_toArray, List.set_cons_zero, List.set_cons_succ]
      refine k_val (v := .bool false) rfl _ (.inl rfl) rfl ?_; try simp only [Act.put, List.setIfInBounds_toArray, List.set_cons_zero, List.set_cons_succ]
      refine k_val (v := .int .i64 ((1 + ownN x : Nat) : Int)) rfl _ (.inl rfl) rfl ?_; try simp only [Act.put, List.setIfInBounds_toArray, List.set_cons_zero, List.set_cons_succ]
      refine k_val (v := .slice (some ⟨b, o, none⟩) (r.length + 1) c) rfl _ (.inl rfl) rfl ?_; try simp only [Act.put, List.setIfInBounds_toArray, List.set_cons_zero, List.set_cons_succ]
      refine k_lenSl (p := some ⟨b, o, none⟩) (n := r.length + 1) (c := c) rfl _ rfl rfl ?_; try simp only [Act.put, List.setIfInBounds_toArray, List.set_cons_zero, List.set_cons_succ]
      refine j_gtr (m := ((1 + ownN x : Nat) : Int)) (n := ((r.length + 1 : Nat) : Int)) (t := true) rfl _ _ _ rfl rfl rfl HD.out ?_; try simp only [Act.put, List.setIfInBounds_toArray, List.set_cons_zero, List.set_cons_succ]
      refine k_pickF (t := true) rfl _ _ _ rfl rfl rfl ?_; try simp only [Act.put, List.setIfInBounds_toArray, List.set_cons_zero, List.set_cons_succ]
      refine k_val (v := .bool true) rfl _ (.inr rfl) rfl ?_; try simp only [Act.put, List.setIfInBounds_toArray, List.set_cons_zero, List.set_cons_succ]
      refine k_end ?_
      clear hT5
      intro w6 hT6
      have hd5 : (⟨#[66, 89, 84, 69, 32]⟩ : ByteArray).size + (⟨(txt [x]).toArray⟩ : ByteArray).size ≤ 100000000 := by
        have : (⟨(txt [x]).toArray⟩ : ByteArray).size = (txt [x]).length := rfl
        rw [this, txt_length]; exact (by decide : 5 + (2 + 2 * 1) ≤ 100000000)
      have HM := Lib.hid hd5
      clear hd5
      go_wp2_with (first
        | (refine st_slO (vl := none) (vh := some (.int .i64 ((1 : Nat) : Int))) rfl rfl rfl rfl rfl HSL1.out ?_)
        | (go_at_call 24; refine (hexText_any _ [x] _ (by simp) (HX1.out _ hT6)).mono ?_; rintro e w7 ⟨rfl, hT7⟩)
        | (refine st_addS (s := ⟨#[66, 89, 84, 69, 32]⟩) (t := ⟨(txt [x]).toArray⟩) rfl _ _ _ _ rfl rfl rfl HM.out ?_))
      go_ret2
      exact fp_byte HP.out (hT6.trans hT7)
    · have HP := Lib.hid (show ¬ (nm x = [] ∨ r.length < ownN x) from fun h => h.elim h0 h1)
      have HD := Lib.hid (show decide (((r.length + 1 : Nat) : Int) < ((1 + ownN x : Nat) : Int)) = false from decide_eq_false (by omega))
      clear h0
      go_upto_region 2 with (fail)
      refine k_seq (C := fun w' => Tch [] w w') hT5 ?_
      refine k_val (v := .string (strB (nm x))) rfl _ (.inl rfl) rfl ?_; try simp only [Act.put, List.setIfInBounds_toArray, List.set_cons_zero, List.set_cons_succ]
      refine k_eqS (l := nm x) (m := []) (t := false) rfl _ _ _ rfl rfl rfl HN.out (by simp) HB.out ?_; try simp only [Act.put, List.setIfInBounds_toArray, List.set_cons_zero, List.set_cons_succ]
      refine k_val (v := .bool false) rfl _ (.inl rfl) rfl ?_; try simp only [Act.put, List.setIfInBounds_toArray, List.set_cons_zero, List.set_cons_succ]
      refine k_val (v := .int .i64 ((1 + ownN x : Nat) : Int)) rfl _ (.inl rfl) rfl ?_; try simp only [Act.put, List.setIfInBounds_toArray, List.set_cons_zero, List.set_cons_succ]
      refine k_val (v := .slice (some ⟨b, o, none⟩) (r.length + 1) c) rfl _ (.inl rfl) rfl ?_; try simp only [Act.put, List.setIfInBounds_toArray, List.set_cons_zero, List.set_cons_succ]
      refine k_lenSl (p := some ⟨b, o, none⟩) (n := r.length + 1) (c := c) rfl _ rfl rfl ?_; try simp only [Act.put, List.setIfInBounds_toArray, List.set_cons_zero, List.set_cons_succ]
      refine j_gtr (m := ((1 + ownN x : Nat) : Int)) (n := ((r.length + 1 : Nat) : Int)) (t := false) rfl _ _ _ rfl rfl rfl HD.out ?_; try simp only [Act.put, List.setIfInBounds_toArray, List.set_cons_zero, List.set_cons_succ]
      refine k_pickF (t := false) rfl _ _ _ rfl rfl rfl ?_; try simp only [Act.put, List.setIfInBounds_toArray, List.set_cons_zero, List.set_cons_succ]
      refine k_val (v := .bool false) rfl _ (.inr rfl) rfl ?_; try simp only [Act.put, List.setIfInBounds_toArray, List.set_cons_zero, List.set_cons_succ]
      refine k_end ?_
      clear hT5
      intro w6 hT6
      by_cases h2 : ownN x = 0
      · have HZ := Lib.hid h2
        have hd : (((1 + ownN x : Nat) : Int) == 1) = true := by rw [h2]; rfl
        clear h2
        go_wp2
        go_ret2
        exact fp_bare HP.out HZ.out hT6
      · have HZ := Lib.hid h2
        have hd : (((1 + ownN x : Nat) : Int) == 1) = false := by rw [beq_eq_false_iff_ne]; omega
        have e9 : 1 + ownN x - 1 = ownN x := by omega
        have HX2 : Hid (RdB w6 (.slice (some ⟨b, o + 1, none⟩) (ownN x) (c - 1)) (r.take (ownN x))) := Lib.hid (by
          have h := (HV.out.mid 1 (1 + ownN x) (by omega) (by omega)).tch hT6 (by simp)
          rw [e9] at h
          exact h)
        have hsl2 := sl_mid b o (r.length + 1) c 1 (1 + ownN x) (by omega) (by omega) (by omega)
        rw [e9] at hsl2
        have HSL2 := Lib.hid hsl2
        clear hsl2 e9
        have hl2 : (r.take (ownN x)).length ≤ 32 := by rw [List.length_take]; omega
        have hs2 : (⟨(txt (r.take (ownN x))).toArray⟩ : ByteArray).size ≤ 66 := by
          have : (⟨(txt (r.take (ownN x))).toArray⟩ : ByteArray).size = (txt (r.take (ownN x))).length := rfl
          rw [this, txt_length]; omega
        have hs3 : (strB (nm x) ++ (⟨#[32]⟩ : ByteArray)).size ≤ 15 := by rw [ByteArray.size_append]; exact Nat.add_le_add hnl (Nat.le_refl 1)
        have HM := Lib.hid (And.intro (show (strB (nm x)).size + (⟨#[32]⟩ : ByteArray).size ≤ 100000000 from Nat.le_trans (Nat.add_le_add hnl (Nat.le_refl 1)) (by decide)) (show (strB (nm x) ++ (⟨#[32]⟩ : ByteArray)).size + (⟨(txt (r.take (ownN x))).toArray⟩ : ByteArray).size ≤ 100000000 by omega))
        clear h2 hs2 hs3
        have ht1 := True.intro
        go_wp2_with (first
          | (refine st_slO (vl := some (.int .i64 ((1 : Nat) : Int))) (vh := some (.int .i64 ((1 + ownN x : Nat) : Int))) rfl rfl rfl rfl rfl HSL2.out ?_)
          | (go_at_call 24; refine (hexText_any _ (r.take (ownN x)) _ (by omega) HX2.out).mono ?_; rintro e w7 ⟨rfl, hT7⟩)
          | (have _t := ht1; clear _t ht1; refine st_addS (s := strB (nm x)) (t := ⟨#[32]⟩) rfl _ _ _ _ rfl rfl rfl HM.out.1 ?_)
          | (refine st_addS (s := strB (nm x) ++ (⟨#[32]⟩ : ByteArray)) (t := ⟨(txt (r.take (ownN x))).toArray⟩) rfl _ _ _ _ rfl rfl rfl HM.out.2 ?_))
        go_ret2
        exact fp_push HP.out HZ.out (hT6.trans hT7)
end Go.Proofs.Ytjbjjiibldlipaa
