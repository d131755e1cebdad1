/- About how much an item has: what the law's own size says of its bytes. -/
import Derived.Test.YtjlhnjnoigjjfaaDoorS1
namespace Go.Proofs.YtjlhnjnoigjjfaaDoor
open Go.RowKit

theorem encS_le {l : List Nat} (h : l.length < 4294967296) : (encS l).length ≤ 5 + l.length := by
  unfold encS
  split
  · omega
  · rw [List.length_append, hd_length]
    have := hsz_le h
    omega
theorem encs_succ {l : List It} {k : Nat} (h : k < l.length) : encs (l.take (k + 1)) = encs (l.take k) ++ enc l[k] := by
  rw [List.take_succ_eq_append_getElem h, encs_append, encs_one]
theorem enc_lst_le {l : List It} (h : (encs l).length < 4294967296) : (enc (.lst l)).length ≤ 5 + (encs l).length := by
  rw [enc_lst, List.length_append, hd_length]
  have := hsz_le h
  omega
/-- What size answers: a number, and where it is below the bound, how many bytes the item has at most. -/
def SizePost (k left : Nat) (y0 yb yl : Value) (w : World) (e : Ending) (w' : World) : Prop :=
  Tch [] w w' ∧ ∃ n : Nat, e = .returned (.int .i64 (n : Int)) ∧ 1 ≤ n ∧ n ≤ left + 4611686018427387904 ∧ ∀ it, ItC [] w k y0 yb yl it → n < left → (enc it).length ≤ 5 * n
def SizeOK (k : Nat) : Prop := ∀ (y0 yb yl : Value) (left : Nat) (w : World), ItR [] w k y0 yb yl → 1 ≤ left → left ≤ 5000 → Calls Tryd.prog 17 #[.agg #[y0, yb, yl], .int .i64 (left : Int)] w (SizePost k left y0 yb yl w)
/-- What it says when so many of the list's items have been gone through. -/
def SizeInv (k left : Nat) (yl : Value) (w : World) (m n : Nat) : Prop :=
  ∀ its, (∃ p c, yl = .slice p its.length c) → (its ≠ [] → ∃ b o c, yl = .slice (some ⟨b, o, none⟩) its.length c ∧ ∀ i (h : i < its.length), ∃ z0 zb zl, w.cell? ⟨b, o + i * 3, none⟩ = some z0 ∧ w.cell? ⟨b, o + i * 3 + 1, none⟩ = some zb ∧ w.cell? ⟨b, o + i * 3 + 2, none⟩ = some zl ∧ ItC [] w k z0 zb zl its[i]) → n < left → (encs (its.take m)).length ≤ 5 * (n - 1)
theorem sizeinv_start (k left : Nat) (yl : Value) (w : World) (n : Nat) : SizeInv k left yl w 0 n := fun its _ _ _ => by simp [encs]
theorem sizeinv_step {k left m n n' b o N c : Nat} {yl z0 zb zl : Value} {w : World} (hI : SizeInv k left yl w m n) (hn1 : 1 ≤ n) (hyl : yl = .slice (some ⟨b, o, none⟩) N c) (h0 : w.cell? ⟨b, o + m * 3, none⟩ = some z0) (h1 : w.cell? ⟨b, o + m * 3 + 1, none⟩ = some zb) (h2 : w.cell? ⟨b, o + m * 3 + 2, none⟩ = some zl)
    (hch : ∀ it, ItC [] w k z0 zb zl it → n' < left - n → (enc it).length ≤ 5 * n') : SizeInv k left yl w (m + 1) (n + n') := by
  intro its hl hc hlt
  have hprev := hI its hl hc (by omega)
  rcases Nat.lt_or_ge m its.length with hm | hm
  · rw [encs_succ hm, List.length_append]
    obtain ⟨b', o', c', he, hcs⟩ := hc (by intro e; subst e; simp at hm)
    rw [hyl] at he
    cases he
    obtain ⟨x0, xb, xl, g0, g1, g2, hit⟩ := hcs m hm
    rw [h0] at g0; rw [h1] at g1; rw [h2] at g2
    cases g0; cases g1; cases g2
    have := hch _ hit (by omega)
    omega
  · rw [List.take_of_length_le (by omega)]
    rw [List.take_of_length_le hm] at hprev
    omega
theorem size_end {k left n nb cb : Nat} {pb pl : Option Addr} {nl cl : Nat} {y0 : Value} {w w' : World} (hT : Tch [] w w') (hl1 : 1 ≤ left) (hl5 : left ≤ 5000) (hn : 1 + nb ≤ n) (hmax : n ≤ left + 4611686018427387904) (hI : ∀ m, n < left → m = nl → SizeInv k left (.slice pl nl cl) w m n) :
    SizePost (k + 1) left y0 (.slice pb nb cb) (.slice pl nl cl) w (.returned (.int .i64 (n : Int))) w' := by
  refine ⟨hT, n, rfl, by omega, hmax, fun it hit hlt => ?_⟩
  cases it with
  | str l =>
    unfold ItC at hit
    have hl : nb = l.length := by
      obtain ⟨_, _, he, _⟩ := hit.2.1
      cases he; rfl
    rw [enc_str]
    have := encS_le (l := l) (by omega)
    omega
  | lst its =>
    unfold ItC at hit
    obtain ⟨_, p, c, he, h2, h3⟩ := hit
    cases he
    have := hI _ hlt rfl its ⟨_, _, rfl⟩ (fun hne => by
      obtain ⟨b, o, rfl, _, _, hcs⟩ := h3 hne
      exact ⟨b, o, _, rfl, hcs⟩) hlt
    rw [List.take_length] at this
    have h4 := enc_lst_le (l := its) (by omega)
    omega
end Go.Proofs.YtjlhnjnoigjjfaaDoor
