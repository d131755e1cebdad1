/- The law RlpHeads: what it packs. -/
import Derived.Test.YtnkfkahbkjdnpaaR24
namespace Go.Proofs.Ytnkfkahbkjdnpaa.Heads
open Go.RowKit

theorem RdA.ofBlk {X : List Nat} {w : World} {b : Nat} {l : List Nat} (h : Blk w b 5 (bc l.length fun i => l.getD i 0)) (hl : ∀ x ∈ l, x < 256) (hb : b ∉ X) : RdA X w (.slice (some ⟨b, 0, none⟩) l.length l.length) l :=
  ⟨_, _, rfl, Nat.le_refl _, hl, fun _ => ⟨b, 0, rfl, h.lt, hb, fun i hi => by rw [Nat.zero_add]; exact h.cell (bc_get hi)⟩⟩
/-- The two items of the law. -/
def itB (N : Nat) : It := .str (List.replicate N 200)
def itL (N : Nat) : It := .lst (List.replicate N (.str [7]))
theorem encs_sevens : ∀ N, encs (List.replicate N (.str [7])) = List.replicate N 7
  | 0 => by simp [encs]
  | N + 1 => by rw [List.replicate_succ, List.replicate_succ, encs, encs_sevens N, enc_str]; rfl
theorem deps_sevens : ∀ N, deps (List.replicate N (.str [7])) = 0
  | 0 => by simp [deps]
  | N + 1 => by rw [List.replicate_succ, deps, deps_sevens N, dep_str]; rfl
theorem single_200 (N : Nat) : single (List.replicate N 200) = false := by
  match N with
  | 0 => rfl
  | 1 => rfl
  | N + 2 => rfl
theorem len_itB (N : Nat) : (enc (itB N)).length = hsz N + N := by
  unfold itB
  rw [enc_str]; unfold encS
  rw [single_200, if_neg (by simp), List.length_append, hd_length, List.length_replicate]
theorem len_itL (N : Nat) : (enc (itL N)).length = hsz N + N := by
  unfold itL
  rw [enc_lst, encs_sevens, List.length_append, hd_length, List.length_replicate]
theorem dep_itB (N : Nat) : dep (itB N) ≤ 32 := by unfold itB; rw [dep_str]; omega
theorem dep_itL (N : Nat) : dep (itL N) ≤ 32 := by unfold itL; rw [dep_lst, deps_sevens]; omega
/-- What the law's tail asks of the item. -/
structure Good (N : Nat) (it : It) : Prop where
  len : (enc it).length = hsz N + N
  dep : dep it ≤ 32
  small : N ≤ 70000
theorem Good.le {N : Nat} {it : It} (h : Good N it) : (enc it).length ≤ 16777216 := by
  have h1 := h.len
  have h2 := h.small
  have h3 := hsz_le (n := N) (by omega)
  omega
theorem Good.rd {N : Nat} {it : It} (h : Good N it) : rd (enc it) = .ok it := by rw [enc_rd h.le, if_pos h.dep]
theorem Good.err {N : Nat} {it : It} (h : Good N it) : rdErr (enc it) = 0 := by unfold rdErr; rw [h.rd]
theorem Good.item {N : Nat} {it : It} (h : Good N it) : rdItem (enc it) = it := by unfold rdItem; rw [h.rd]
theorem packs {N k : Nat} {it : It} {x0 vb vl : Value} {w : World} (h : Good N it) (hb : ∀ x ∈ enc it, x < 256) (hit : ItC [] w k x0 vb vl it) : Calls Try.prog 12 #[.agg #[x0, vb, vl]] w fun e w' => ∃ b, e = .returned (.tuple #[.slice (some ⟨b, 0, none⟩) (hsz N + N) (hsz N + N), .int .i64 0]) ∧ Tch [] w w' ∧ RdA [] w' (.slice (some ⟨b, 0, none⟩) (hsz N + N) (hsz N + N)) (enc it) :=
  (pack_any k x0 vb vl it w hit).mono fun e w' hp => by
    obtain ⟨hT, hq⟩ := hp
    rw [if_pos ⟨h.dep, h.le⟩] at hq
    obtain ⟨b, _, rfl, hB⟩ := hq
    have := RdA.ofBlk (X := []) hB hb (by simp)
    rw [h.len] at this ⊢
    exact ⟨b, rfl, hT, this⟩
theorem reads {N : Nat} {it : It} {v : Value} {w : World} (h : Good N it) (hv : RdA [] w v (enc it)) : Calls Try.prog 15 #[v] w fun e w' => ∃ d p1 n1 c1 p2 n2 c2, e = .returned (.tuple #[.agg #[.bool d, .slice p1 n1 c1, .slice p2 n2 c2], .int .i64 0]) ∧ Tch [] w w' ∧ ItF w w' 34 (.bool d) (.slice p1 n1 c1) (.slice p2 n2 c2) it :=
  (read_any v (enc it) w (by have := h.le; omega) hv).mono fun e w' hp => by
    obtain ⟨hT, d, p1, n1, c1, p2, n2, c2, rfl, hi⟩ := hp
    rw [h.item] at hi
    rw [h.err]
    exact ⟨d, p1, n1, c1, p2, n2, c2, rfl, hT, hi⟩
theorem hsz_small {N : Nat} (h : N ≤ 55) : hsz N = 1 := by unfold hsz; rw [if_pos h]
theorem hsz_great {N : Nat} (h : 55 < N) : hsz N = 1 + lsz N := by unfold hsz; rw [if_neg (by omega)]
theorem lsz_zero : lsz 0 = 0 := by unfold lsz; rw [be_zero]; rfl
/-- The bytes of the first loop. -/
def two00 (N k : Nat) : Array Value := bc N fun i => if i < k then 200 else 0
theorem two00_set {N k : Nat} (h : k < N) : (two00 N k).setIfInBounds k (.int .u8 200) = two00 N (k + 1) := by
  unfold two00
  have := bc_set (f := fun i => if i < k then 200 else 0) (v := 200) h
  rw [show (Value.int .u8 200) = Value.int .u8 ((200 : Nat) : Int) from rfl, this]
  refine bc_congr fun i _ => ?_
  by_cases h1 : i = k
  · rw [if_pos h1, if_pos (by omega)]
  · rw [if_neg h1]
    by_cases h2 : i < k
    · rw [if_pos h2, if_pos (by omega)]
    · rw [if_neg h2, if_neg (by omega)]
theorem itB_itc {N k b : Nat} {X : List Nat} {w : World} (h : Blk w b 5 (two00 N N)) (hb : b ∉ X) (hk : N < 4611686018427387904) : ItC X w (k + 1) (.bool false) (.slice (some ⟨b, 0, none⟩) N N) (.slice none 0 0) (itB N) := by
  unfold itB ItC
  have h2 : Blk w b 5 (bc (List.replicate N 200).length fun i => (List.replicate N 200).getD i 0) := by
    rw [List.length_replicate]
    rw [show two00 N N = bc N fun i => (List.replicate N 200).getD i 0 from bc_congr fun i hi => by simp [hi]] at h
    exact h
  have := RdA.ofBlk (X := X) h2 (fun x hx => by have := List.eq_of_mem_replicate hx; omega) hb
  rw [List.length_replicate] at this
  exact ⟨rfl, this, by rw [List.length_replicate]; omega⟩
end Go.Proofs.Ytnkfkahbkjdnpaa.Heads
