/- What belongs to a PUSH, where a code may be jumped to: ops.follow, ops.Jumps, the document's own and Jumps. -/
import Derived.Test.YtijnglcagijlcaaO1
namespace Go.Proofs.Ytijnglcagijlcaa
open Go.RowKit

/-- How many bytes belong to an instruction. -/
def fol (x : Nat) : Nat := if 96 ≤ x ∧ x ≤ 127 then x - 95 else 0
theorem follow_any (x : Nat) (w : World) (hx : x < 256) : Calls Try.prog 23 #[.int .u8 (x : Int)] w fun e w' => e = .returned (.int .i64 ((fol x : Nat) : Int)) ∧ w = w' := by
  by_cases h1 : x < 96
  · have hd : (x : Int) < 96 := by omega
    have e0 : fol x = 0 := by unfold fol; rw [if_neg (by omega)]
    rw [e0]
    go_enter Try.func23, Try.ntmps23
    go_wp2
    go_ret
    exact ⟨rfl, rfl⟩
  · have hd : ¬ (x : Int) < 96 := by omega
    by_cases h2 : 127 < x
    · have hd2 : (127 : Int) < (x : Int) := by omega
      have e0 : fol x = 0 := by unfold fol; rw [if_neg (by omega)]
      rw [e0]
      go_enter Try.func23, Try.ntmps23
      go_wp2
      go_ret
      exact ⟨rfl, rfl⟩
    · have hd2 : ¬ (127 : Int) < (x : Int) := by omega
      have e0 : fol x = x - 95 := by unfold fol; rw [if_pos (by omega)]
      rw [e0]
      go_enter Try.func23, Try.ntmps23
      go_wp2
      go_ret
      exact ⟨ret_int (by omega), rfl⟩
theorem own_any (x : Nat) (w : World) (hx : x < 256) : Calls Try.prog 24 #[.int .u8 (x : Int)] w fun e w' => e = .returned (.int .i64 ((fol x : Nat) : Int)) ∧ w = w' := by
  by_cases h1 : 96 ≤ x
  · have hd : (96 : Int) ≤ (x : Int) := by omega
    by_cases h2 : x < 128
    · have hd2 : (x : Int) < 128 := by omega
      have e0 : fol x = x - 95 := by unfold fol; rw [if_pos (by omega)]
      rw [e0]
      go_enter Try.func24, Try.ntmps24
      go_wp2
      go_ret
      exact ⟨ret_int (by omega), rfl⟩
    · have hd2 : ¬ (x : Int) < 128 := by omega
      have e0 : fol x = 0 := by unfold fol; rw [if_neg (by omega)]
      rw [e0]
      go_enter Try.func24, Try.ntmps24
      go_wp2
      go_ret
      exact ⟨rfl, rfl⟩
  · have hd : ¬ (96 : Int) ≤ (x : Int) := by omega
    have e0 : fol x = 0 := by unfold fol; rw [if_neg (by omega)]
    rw [e0]
    go_enter Try.func24, Try.ntmps24
    go_wp2
    go_ret
    exact ⟨rfl, rfl⟩
/-- The places from k on, in at most f steps. -/
def jmpF (l : List Nat) : Nat → Nat → List Nat
  | 0, _ => []
  | f + 1, k => if k < l.length then (if l.getD k 0 = 91 then [k] else []) ++ jmpF l f (k + (1 + fol (l.getD k 0))) else []
def jmp (l : List Nat) : List Nat := jmpF l l.length 0
theorem jmpF_end {l : List Nat} : ∀ {f k : Nat}, l.length ≤ k → jmpF l f k = []
  | 0, _, _ => rfl
  | f + 1, k, h => by unfold jmpF; rw [if_neg (by omega)]
theorem jmpF_fuel {l : List Nat} : ∀ {f g k : Nat}, l.length - k ≤ f → l.length - k ≤ g → jmpF l f k = jmpF l g k
  | 0, g, k, h, _ => by rw [jmpF_end (k := k) (by omega), jmpF_end (k := k) (by omega)]
  | f + 1, 0, k, _, h => by rw [jmpF_end (k := k) (by omega), jmpF_end (k := k) (by omega)]
  | f + 1, g + 1, k, h1, h2 => by
    unfold jmpF
    by_cases hk : k < l.length
    · rw [if_pos hk, if_pos hk, jmpF_fuel (f := f) (g := g) (by omega) (by omega)]
    · rw [if_neg hk, if_neg hk]
theorem jmpF_step {l : List Nat} {k : Nat} (h : k < l.length) : jmpF l l.length k = (if l.getD k 0 = 91 then [k] else []) ++ jmpF l l.length (k + (1 + fol (l.getD k 0))) := by
  rw [jmpF_fuel (f := l.length) (g := l.length + 1) (by omega) (by omega)]
  conv => lhs; unfold jmpF
  rw [if_pos h]
theorem jmp_len {l acc : List Nat} {k : Nat} (h : acc ++ jmpF l l.length k = jmp l) : acc.length ≤ l.length := by
  have h1 : ∀ f k, (jmpF l f k).length ≤ f := by
    intro f
    induction f with
    | zero => intro k; exact Nat.le_refl 0
    | succ f ih =>
      intro k
      unfold jmpF
      split
      · rw [List.length_append]
        have := ih (k + (1 + fol (l.getD k 0)))
        split
        · rw [List.length_singleton]; omega
        · rw [List.length_nil]; omega
      · simp
  have h2 := congrArg List.length h
  rw [List.length_append] at h2
  have := h1 l.length 0
  unfold jmp at h2
  omega
theorem fol_le (x : Nat) (hx : x < 256) : fol x ≤ 32 := by unfold fol; split <;> omega
theorem own_allocI {w : World} {B n : Nat} {v : Value} {l : List Value} (h : w.ownsRow B 3 1 v n l) (o : Obj) : (w.alloc o).ownsRow B 3 1 v n l := h.alloc o
set_option maxHeartbeats 1000000 in
set_option maxRecDepth 100000 in
theorem jumps_any (v : Value) (l : List Nat) (w : World) (hm : l.length ≤ 1000000) (hv : RdA [] w v l) :
    Calls Try.prog 16 #[v] w fun e w' => ∃ v', e = .returned v' ∧ Tch [] w w' ∧ RdI w' v' (jmp l) := by
  obtain ⟨_, c', rfl, hcap, hb, hc⟩ := id hv
  have HC := Lib.hid hc
  have HB := Lib.hid hb
  clear hc hb hv
  go_enter Try.func16, Try.ntmps16
  go_wp2
  go_loopw [3, 4] (fun o i wr => ∃ (k : Nat) (acc : List Nat), i = .int .i64 (k : Int) ∧ k ≤ l.length + 32 ∧ Hid (acc ++ jmpF l l.length k = jmp l) ∧ wr.ownsRow w.heap.size 3 1 o acc.length (ni acc) ∧ Tch [] w wr) (fun _ i _ => l.length + 32 - (intOf i).toNat)
  case atStart => exact ⟨0, [], rfl, by omega, Lib.hid rfl, ownI_nil _ _, Tch.refl _ _⟩
  case round =>
    obtain ⟨k, acc, rfl, hk, HJ, hown, hT⟩ := hrel
    by_cases hlt : k < l.length
    · have hne : l ≠ [] := by intro e; subst e; simp at hlt
      obtain ⟨b, o, rfl, hbw, hbX, hc⟩ := HC.out hne
      have hx := HB.out (l.getD k 0) (by rw [List.getD_eq_getElem?_getD, List.getElem?_eq_getElem hlt]; exact List.getElem_mem hlt)
      have hck := (hT.cell (p := ⟨b, o + k, none⟩) hbw hbX).trans (hc k hlt)
      have hal := jmp_len HJ.out
      have hst := jmpF_step hlt
      have HCK := Lib.hid (fun (w' : World) (h : Tch [] w w') => (h.cell (p := ⟨b, o + k, none⟩) hbw hbX).trans (hc k hlt))
      obtain ⟨x, hxx⟩ : ∃ x, x = l.getD k 0 := ⟨_, rfl⟩
      rw [← hxx] at hck hx hst HCK
      have hf := fol_le x hx
      have HST := Lib.hid hst
      have HXX := Lib.hid hxx
      clear hc hxx hst
      by_cases h91 : x = 91
      · have hd : ((x : Int) == 91) = true := by rw [h91]; rfl
        have H91 := Lib.hid h91
        clear h91
        go_wp2_with (first
          | (at_builtin; go_must (refine st_appI (x := k) (b := wr.heap.size) (w := wr.alloc (.cells #[.int .i64 (k : Int)] 3)) (w0 := w) (l := acc) (v := u3) rfl (.tmp 22) (.tmp 24) rfl rfl rfl (Blk.new wr 3 #[.int .i64 (k : Int)]) (own_allocI hown _) (hT.alloc _) (Nat.le_trans hal (by omega)) ?_; clear hown hT; intro v1 w1 hown hT; have hck := HCK.out w1 hT))
          | (go_at_call 23; refine (follow_any x _ hx).mono ?_; rintro e w2 ⟨rfl, rfl⟩))
        go_roundw
        case rel =>
          refine ⟨k + (1 + fol x), acc ++ [k], by go_num, by omega, Lib.hid ?_, hown, hT⟩
          rw [List.append_assoc, ← HJ.out, HST.out, if_pos H91.out]
        case measure => simp [intOf]; omega
      · have hd : ((x : Int) == 91) = false := by simp; omega
        go_wp2_with (go_at_call 23; refine (follow_any x _ hx).mono ?_; rintro e w2 ⟨rfl, rfl⟩)
        go_roundw
        case rel =>
          refine ⟨k + (1 + fol x), acc, by go_num, by omega, Lib.hid ?_, hown, hT⟩
          rw [← HJ.out, HST.out, if_neg h91, List.nil_append]
        case measure => simp [intOf]; omega
    · go_wp2
      go_ret
      refine ⟨_, rfl, hT, ?_⟩
      have := HJ.out
      rw [jmpF_end (by omega), List.append_nil] at this
      rw [← this]
      exact RdI.own hown
set_option maxHeartbeats 1000000 in
set_option maxRecDepth 100000 in
theorem rjumps_any (v : Value) (l : List Nat) (w : World) (hm : l.length ≤ 1000000) (hv : RdA [] w v l) :
    Calls Try.prog 17 #[v] w fun e w' => ∃ v', e = .returned v' ∧ Tch [] w w' ∧ RdI w' v' (jmp l) := by
  obtain ⟨_, c', rfl, hcap, hb, hc⟩ := id hv
  have HC := Lib.hid hc
  have HB := Lib.hid hb
  clear hc hb hv
  go_enter Try.func17, Try.ntmps17
  go_wp2
  go_loopw [3, 4] (fun o i wr => ∃ (k : Nat) (acc : List Nat), i = .int .i64 (k : Int) ∧ k ≤ l.length + 32 ∧ Hid (acc ++ jmpF l l.length k = jmp l) ∧ wr.ownsRow w.heap.size 3 1 o acc.length (ni acc) ∧ Tch [] w wr) (fun _ i _ => l.length + 32 - (intOf i).toNat)
  case atStart => exact ⟨0, [], rfl, by omega, Lib.hid rfl, ownI_nil _ _, Tch.refl _ _⟩
  case round =>
    obtain ⟨k, acc, rfl, hk, HJ, hown, hT⟩ := hrel
    by_cases hlt : k < l.length
    · have hne : l ≠ [] := by intro e; subst e; simp at hlt
      obtain ⟨b, o, rfl, hbw, hbX, hc⟩ := HC.out hne
      have hx := HB.out (l.getD k 0) (by rw [List.getD_eq_getElem?_getD, List.getElem?_eq_getElem hlt]; exact List.getElem_mem hlt)
      have hck := (hT.cell (p := ⟨b, o + k, none⟩) hbw hbX).trans (hc k hlt)
      have hal := jmp_len HJ.out
      have hst := jmpF_step hlt
      have HCK := Lib.hid (fun (w' : World) (h : Tch [] w w') => (h.cell (p := ⟨b, o + k, none⟩) hbw hbX).trans (hc k hlt))
      obtain ⟨x, hxx⟩ : ∃ x, x = l.getD k 0 := ⟨_, rfl⟩
      rw [← hxx] at hck hx hst HCK
      have hf := fol_le x hx
      have HST := Lib.hid hst
      have HXX := Lib.hid hxx
      clear hc hxx hst
      by_cases h91 : x = 91
      · have hd : ((x : Int) == 91) = true := by rw [h91]; rfl
        have H91 := Lib.hid h91
        clear h91
        go_wp2_with (first
          | (at_builtin; go_must (refine st_appI (x := k) (b := wr.heap.size) (w := wr.alloc (.cells #[.int .i64 (k : Int)] 3)) (w0 := w) (l := acc) (v := u3) rfl (.tmp 22) (.tmp 24) rfl rfl rfl (Blk.new wr 3 #[.int .i64 (k : Int)]) (own_allocI hown _) (hT.alloc _) (Nat.le_trans hal (by omega)) ?_; clear hown hT; intro v1 w1 hown hT; have hck := HCK.out w1 hT))
          | (go_at_call 24; refine (own_any x _ hx).mono ?_; rintro e w2 ⟨rfl, rfl⟩))
        go_roundw
        case rel =>
          refine ⟨k + (1 + fol x), acc ++ [k], by go_num, by omega, Lib.hid ?_, hown, hT⟩
          rw [List.append_assoc, ← HJ.out, HST.out, if_pos H91.out]
        case measure => simp [intOf]; omega
      · have hd : ((x : Int) == 91) = false := by simp; omega
        go_wp2_with (go_at_call 24; refine (own_any x _ hx).mono ?_; rintro e w2 ⟨rfl, rfl⟩)
        go_roundw
        case rel =>
          refine ⟨k + (1 + fol x), acc, by go_num, by omega, Lib.hid ?_, hown, hT⟩
          rw [← HJ.out, HST.out, if_neg h91, List.nil_append]
        case measure => simp [intOf]; omega
    · go_wp2
      go_ret
      refine ⟨_, rfl, hT, ?_⟩
      have := HJ.out
      rw [jmpF_end (by omega), List.append_nil] at this
      rw [← this]
      exact RdI.own hown
end Go.Proofs.Ytijnglcagijlcaa
