/- The law RlpDeep: for every number: how deep lists may stand within lists. No condition. -/
import Derived.Test.YtnkfkahbkjdnpaaK0
namespace Go.Proofs.Ytnkfkahbkjdnpaa.Deep
open Go.RowKit

/-- So many lists around an empty one. -/
def nst : Nat → It
  | 0 => .lst []
  | k + 1 => .lst [nst k]
theorem dep_nst (k : Nat) : dep (nst k) = k + 1 := by
  induction k with
  | zero => rw [nst, dep_lst]; simp [deps]
  | succ k ih => rw [nst, dep_lst]; simp [deps, ih]
theorem enc_nst (k : Nat) : enc (nst (k + 1)) = hd 192 (enc (nst k)).length ++ enc (nst k) := by rw [nst, enc_lst, encs_one]
theorem hd_small {m : Nat} (h : m < 56) : hd 192 m = [192 + m] := by unfold hd; rw [if_pos (by omega)]
theorem hd_great {m : Nat} (h : 56 ≤ m) (h2 : m < 256) : hd 192 m = [248, m] := by
  unfold hd; rw [if_neg (by omega), lsz_one (by omega) h2, be_one (by omega) h2]
theorem nst_len (k : Nat) (h : k ≤ 100) : (enc (nst k)).length ≤ 2 * k + 1 := by
  induction k with
  | zero => rw [nst, enc_lst]; simp [encs, hd]
  | succ k ih =>
    have := ih (by omega)
    rw [enc_nst, List.length_append]
    by_cases h56 : (enc (nst k)).length < 56
    · rw [hd_small h56]; simp; omega
    · rw [hd_great (by omega) (by omega)]; simp; omega
theorem nst_lt (k : Nat) (h : k ≤ 100) : ∀ x ∈ enc (nst k), x < 256 := by
  induction k with
  | zero => rw [nst, enc_lst]; simp [encs, hd]
  | succ k ih =>
    have := nst_len k (by omega)
    rw [enc_nst]
    intro x hx
    rcases List.mem_append.1 hx with hx | hx
    · by_cases h56 : (enc (nst k)).length < 56
      · rw [hd_small h56] at hx; simp at hx; omega
      · rw [hd_great (by omega) (by omega)] at hx; simp at hx; omega
    · exact ih (by omega) x hx
set_option maxHeartbeats 1000000 in
set_option maxRecDepth 100000 in
theorem short (n0 : Int) (hn : -9223372036854775808 ≤ n0 ∧ n0 ≤ 9223372036854775807) (h : n0 < 1 ∨ 60 < n0) (w : World) : Calls Try.prog 6 #[.int .i64 n0] w fun e w' => e = .returned (.bool true) ∧ Tch [] w w' := by
  rcases h with h | h
  · go_enter Try.func6, Try.ntmps6
    go_wp2_with (go_at_call 10; refine (alive_any _).mono ?_; rintro e w1 ⟨rfl, hT⟩)
    go_ret
    exact ⟨rfl, hT⟩
  · have h2 : ¬ n0 < 1 := by omega
    go_enter Try.func6, Try.ntmps6
    go_wp2_with (go_at_call 10; refine (alive_any _).mono ?_; rintro e w1 ⟨rfl, hT⟩)
    go_ret
    exact ⟨rfl, hT⟩
/-- What holds behind some rounds of the first loop. -/
def NI (w : World) (b4 : Nat) (j : Nat) (wr : World) : Prop := ∃ p n c, St [] w wr [(b4, 25, #[.bool true, .slice none 0 0, .slice p n c])] ∧ ItC [b4] wr (j + 1) (.bool true) (.slice none 0 0) (.slice p n c) (nst j)
theorem ni_start {w w4 : World} {b4 : Nat} (hS : St [] w w4 [(b4, 25, #[.bool true, .slice none 0 0, .slice none 0 0])]) : NI w b4 0 w4 := by
  refine ⟨none, 0, 0, hS, ?_⟩
  rw [nst]; unfold ItC
  exact ⟨rfl, none, 0, rfl, ⟨Nat.le_refl _, by simp⟩, fun h => absurd rfl h⟩
theorem ni_step {w wr : World} {b4 j n c : Nat} {p : Option Addr} (hS : St [] w wr [(b4, 25, #[.bool true, .slice none 0 0, .slice p n c])]) (hI : ItC [b4] wr (j + 1) (.bool true) (.slice none 0 0) (.slice p n c) (nst j)) :
    NI w b4 (j + 1) ((wr.alloc (.cells #[.bool true, .slice none 0 0, .slice p n c] 25)).setRow b4 #[.bool true, .slice none 0 0, .slice (some ⟨wr.heap.size, 0, none⟩) 1 1]) := by
  have hS2 := hS.new 25 #[.bool true, .slice none 0 0, .slice p n c]
  have hS3 := hS2.upd (.tail .head) (Only.setRow _ b4 #[.bool true, .slice none 0 0, .slice (some ⟨wr.heap.size, 0, none⟩) 1 1]) ((hS2.get (.tail .head)).row _)
  have hne := hS3.apart2
  have hlt := (hS.get .head).lt
  refine ⟨_, _, _, hS3.swap.skip, ?_⟩
  have hB := hS3.get .head
  rw [nst]; unfold ItC
  refine ⟨rfl, _, _, rfl, ⟨Nat.le_refl _, by simp⟩, fun _ => ⟨wr.heap.size, 0, rfl, hB.lt, by simp; exact hne, fun i hi => ?_⟩⟩
  obtain rfl : i = 0 := by simp at hi; exact hi
  refine ⟨_, _, _, hB.cell rfl, hB.cell rfl, hB.cell rfl, ?_⟩
  exact (hI.tch ((Tch.refl _ _).alloc _)).tch ((Tch.refl _ _).only (Only.setRow _ b4 _) (.inr (by simp)))
theorem pack_err {k : Nat} {w w' : World} {e : Ending} (hk : k ≤ 60) (h : PackPost (nst k) w e w') : ∃ p n c, e = .returned (.tuple #[.slice p n c, .int .i64 (if k < 32 then 0 else 3 : Int)]) ∧ Tch [] w w' := by
  obtain ⟨hT, h⟩ := h
  rw [dep_nst] at h
  have := nst_len k (by omega)
  by_cases hk2 : k < 32
  · rw [if_pos ⟨by omega, by omega⟩] at h
    obtain ⟨b, _, he, _⟩ := h
    rw [if_pos hk2]
    exact ⟨_, _, _, he, hT⟩
  · rw [if_neg (by omega)] at h
    rw [if_neg hk2]
    exact ⟨_, _, _, h, hT⟩
theorem read_err {k : Nat} (hk : k ≤ 60) : (rdErr (enc (nst k)) : Int) = (if k < 32 then 0 else 3 : Int) := by
  have h := enc_rd (t := nst k) (by have := nst_len k (by omega); omega)
  unfold rdErr
  rw [h, dep_nst]
  by_cases hk2 : k < 32
  · rw [if_pos (by omega), if_pos hk2]; rfl
  · rw [if_neg (by omega), if_neg hk2]; rfl
/-- Bytes put ahead of bytes, as the law does it. -/
theorem st_ahead {ops : Array Oper} {rest : List Oper} {o : Oper} {a : Act} {w : World} {Q : Exit → Act → World → Prop} {v : Value} {l h : List Nat} {cs : Array Value} (hcs : cs = (nb h).toArray) (hgd : o.guard = none) (s x : Operand)
    (ho : o.op = .call { callee := .builtin .append, args := #[s, x], argTypes := #[22, 22] }) (hs : a.eval s = .slice (some ⟨w.heap.size, 0, none⟩) h.length h.length) (hx : a.eval x = v) (hv : RdA [] w v l) (hne : l ≠ []) (hl : l.length ≤ 1000) (hh : h.length ≤ 1000) (hb : ∀ y ∈ h, y < 256)
    (hk : ∀ p n c w', RdA [] w' (.slice p n c) (h ++ l) → Tch [] w w' → wpList Try.prog ops Q rest (a.put o.dst (.slice p n c)) w') : wpList Try.prog ops Q (o :: rest) a (w.alloc (.cells cs 5)) := by
  subst hcs
  obtain ⟨i0, hi, hz0, hz1, hz2⟩ := info_parts A_info
  have hv' := hv
  obtain ⟨p, c, rfl, hlc, hbl, h4⟩ := hv
  obtain ⟨bp, op, rfl, h6, _, h7⟩ := h4 hne
  have hown : (w.alloc (.cells (nb h).toArray 5)).ownsRow w.heap.size 5 1 (.slice (some ⟨w.heap.size, 0, none⟩) h.length h.length) h.length (nb h) := by
    refine ⟨by rw [nb_length, Nat.mul_one], .inr ⟨w.heap.size, h.length, _, rfl, Nat.le_refl _, heap_alloc_new w _, Nat.le_refl _, by unfold maxLen; omega, by simp [nb], by
      rw [Nat.mul_one]
      exact List.take_of_length_le (by rw [nb_length]; exact Nat.le_refl _)⟩⟩
  refine wpList_append_own _ hgd s x 22 ho w.heap.size 5 i0 (.int .u8 0) 1 1 bytes_ty hi hz0 hz1 hz2 rfl (by decide) _ _ _ hs hown ⟨bp, op, none⟩ l.length c (nb l) hx (by rw [nb_length, Nat.mul_one]) ?_ (fun u hu => by obtain ⟨y, _, rfl⟩ := List.mem_map.1 hu; rfl) (by unfold maxLen; omega) (by omega) (by simp) ?_
  · intro j u hu
    obtain ⟨hj, rfl⟩ := nb_ne hu
    have hadd : (⟨bp, op, none⟩ : Addr).add j = ⟨bp, op + j, none⟩ := by unfold Addr.add; split <;> simp_all
    rw [hadd]
    exact (((Tch.refl [] w).alloc _).cell (p := ⟨bp, op + j, none⟩) h6 (by simp)).trans (h7 j hj)
  · intro v' w' hown' hgrow _
    have e : nb h ++ nb l = nb (h ++ l) := by simp [nb]
    have e2 : h.length + l.length = (h ++ l).length := by simp
    rw [e, e2] at hown'
    have hT : Tch [] w w' := ⟨hgrow.os, hgrow.tape, hgrow.output, by have := hgrow.size; simp at this; omega, fun k hk _ => (hgrow.block k (by simp; omega) (by simp [Value.ownBlock]; omega)).trans (Below.heap_alloc _ _ _ hk)⟩
    have hr := (RdB.own hown' (fun y hy => by rcases List.mem_append.1 hy with hy | hy; exact hb y hy; exact hbl y hy)).rdA (X := []) (by simp)
    obtain ⟨p', n', c', rfl⟩ := slice_keep hr
    exact hk _ _ _ _ hr hT
end Go.Proofs.Ytnkfkahbkjdnpaa.Deep
