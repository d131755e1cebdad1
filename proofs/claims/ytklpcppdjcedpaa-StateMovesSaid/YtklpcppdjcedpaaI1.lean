/- A struct of one slice in memory (a memory of the machine, a stack): its block, the row that is its own, what a call turns of it. -/
import Derived.Test.YtklpcppdjcedpaaN12
import Derived.Test.YtklpcppdjcedpaaB1
set_option linter.unusedVariables false
set_option linter.unusedSimpArgs false
namespace Go.Proofs.Ytklpcppdjcedpaa
open Go.RowKit

/-- The blocks in which a struct of one slice lies. -/
def fpr (b : Nat) (v : Value) : List Nat := b :: v.ownBlock.toList
theorem mem_fpr {b : Nat} {v : Value} {x : Nat} : x ∈ fpr b v ↔ x = b ∨ v.ownBlock = some x := by
  unfold fpr
  cases v.ownBlock <;> simp [eq_comm]
/-- A struct of one slice v in block b; v is a row of its own, of n elements of m cells of type e. -/
structure RowIn (B : Nat) (ty e m : Nat) (w : World) (b : Nat) (v : Value) (n : Nat) (xs : List Value) : Prop where
  blk : Blk w b ty #[v]
  own : w.ownsRow B e m v n xs
  apart : v.ownBlock ≠ some b
  base : B ≤ b
/-- A call has turned the struct in block b, and of what was there nothing else. -/
structure Turned (w w' : World) (b : Nat) (v v' : Value) : Prop where
  tch : Tch (fpr b v) w w'
  fresh : ∀ k, v'.ownBlock = some k → v.ownBlock = some k ∨ w.heap.size ≤ k
section
variable {B : Nat} {ty e m : Nat} {w w' w'' : World} {b c : Nat} {v v' v'' u : Value} {n : Nat} {xs : List Value} {G : List Nat}
theorem own_far (h : w.ownsRow B e m v n xs) (hT : Tch G w w') (hG : ∀ k, v.ownBlock = some k → k ∉ G) : w'.ownsRow B e m v n xs := by
  obtain ⟨h1, h2⟩ := h
  refine ⟨h1, h2.imp id ?_⟩
  rintro ⟨g, cap, cur, rfl, hg, hb, h3⟩
  exact ⟨g, cap, cur, rfl, hg, by rw [hT.block g (Array.getElem?_eq_some_iff.1 hb).1 (hG g rfl)]; exact hb, h3⟩
theorem RowIn.lt (h : RowIn B ty e m w b v n xs) {x : Nat} (hx : x ∈ fpr b v) : B ≤ x ∧ x < w.heap.size := by
  rcases mem_fpr.1 hx with rfl | hx
  · exact ⟨h.base, h.blk.lt⟩
  · exact h.own.lt x hx
theorem RowIn.far (h : RowIn B ty e m w b v n xs) (hT : Tch G w w') (hG : ∀ x ∈ fpr b v, x ∉ G) : RowIn B ty e m w' b v n xs :=
  ⟨hT.blk h.blk (hG b (mem_fpr.2 (.inl rfl))), own_far h.own hT fun k hk => hG k (mem_fpr.2 (.inr hk)), h.apart, h.base⟩
theorem RowIn.call (h : RowIn B ty e m w b v n xs) (hT : Tch [] w w') : RowIn B ty e m w' b v n xs := h.far hT (by simp)
theorem Turned.refl (w : World) (b : Nat) (v : Value) : Turned w w b v v := ⟨Tch.refl _ _, fun _ h => .inl h⟩
theorem Turned.of_tch (h : Tch [] w w') (b : Nat) (v : Value) : Turned w w' b v v := ⟨h.mono (by simp), fun _ h => .inl h⟩
theorem Turned.trans (h : Turned w w' b v v') (k : Turned w' w'' b v' v'') : Turned w w'' b v v'' :=
  ⟨⟨k.tch.os.trans h.tch.os, k.tch.tape.trans h.tch.tape, k.tch.output.trans h.tch.output, Nat.le_trans h.tch.size k.tch.size, fun x hx hb => (k.tch.block x (Nat.lt_of_lt_of_le hx h.tch.size) fun hm => by
    rcases mem_fpr.1 hm with rfl | hm
    · exact hb (mem_fpr.2 (.inl rfl))
    · rcases h.fresh x hm with h1 | h1
      · exact hb (mem_fpr.2 (.inr h1))
      · omega).trans (h.tch.block x hx hb)⟩, fun k' hk => by
    rcases k.fresh k' hk with h1 | h1
    · exact h.fresh k' h1
    · exact .inr (Nat.le_trans h.tch.size h1)⟩
/-- What lies apart stays apart. -/
theorem Turned.dis (h : Turned w w' b v v') (hd : ∀ x ∈ fpr c u, x ∉ fpr b v) (hl : ∀ x ∈ fpr c u, x < w.heap.size) : ∀ x ∈ fpr c u, x ∉ fpr b v' := by
  intro x hx hm
  rcases mem_fpr.1 hm with rfl | hk
  · exact hd x hx (mem_fpr.2 (.inl rfl))
  · rcases h.fresh x hk with h1 | h1
    · exact hd x hx (mem_fpr.2 (.inr h1))
    · exact Nat.lt_irrefl x (Nat.lt_of_lt_of_le (hl x hx) h1)
theorem dis_symm (hd : ∀ x ∈ fpr c u, x ∉ fpr b v) : ∀ x ∈ fpr b v, x ∉ fpr c u := fun x hx hm => hd x hm hx
/-- What a call does to its own struct is nothing to whoever began before that was laid down. -/
theorem Turned.fresh_tch {w0 : World} (hT : Tch [] w0 w) (h : Turned w w' b v v') (hb : ∀ x ∈ fpr b v, w0.heap.size ≤ x) : Tch [] w0 w' := Tch.fresh hT h.tch hb
/-- A struct that was just laid down. -/
theorem RowIn.new {L : List Ent} (hB : Blk w b ty #[.slice none 0 0]) (hb : B ≤ b) : RowIn B ty e m w b (.slice none 0 0) 0 [] :=
  ⟨hB, ⟨by simp, .inl ⟨rfl, rfl⟩⟩, (by simp [Value.ownBlock]), hb⟩
theorem RowIn.slice (h : RowIn B ty e m w b v n xs) : ∃ p c, v = .slice p n c ∧ n ≤ c := by
  rcases h.own.2 with ⟨rfl, rfl⟩ | ⟨g, cap, cur, rfl, _, _, hn, _⟩
  · exact ⟨none, 0, rfl, Nat.le_refl _⟩
  · exact ⟨_, cap, rfl, hn⟩
end
/-- A struct of bytes, its bytes L. -/
abbrev MemIn (B ty : Nat) (w : World) (b : Nat) (v : Value) (L : List Nat) : Prop := RowIn B ty 5 1 w b v L.length (nb L)
theorem bytes_aggI (w : World) : (isAgg 34).run Try.prog w = .ok false w := by simp [isAgg, run_underlying bytes_ty]
set_option maxRecDepth 100000
/-- What so many words cost. -/
def costN (n : Nat) : Nat := 3 * n + n * n / 512
def capN (n : Int) : Nat := min n.toNat 1048576
theorem cost_wrap (n : Nat) (h : n ≤ 1048576) : wrap64 (3 * (n : Int) + wrap64 ((wrap64 ((n : Int) * n)).tdiv 512)) = ((costN n : Nat) : Int) := by
  have hq : n * n ≤ 1048576 * 1048576 := Nat.mul_le_mul h h
  have e : (n : Int) * n = ((n * n : Nat) : Int) := by simp
  unfold costN
  rw [e]
  generalize n * n = q at *
  rw [IntWalk.wrap64_in (q : Int) (by omega)]
  have h3 : (q : Int).tdiv 512 = ((q / 512 : Nat) : Int) := by rw [Int.tdiv_eq_ediv_of_nonneg (by omega)]; omega
  rw [h3, IntWalk.wrap64_in ((q / 512 : Nat) : Int) (by omega), IntWalk.wrap64_in _ (by omega)]
  omega
theorem costN_top : costN 1048576 = 2150629376 := by decide
/-- at + n, or that it is too much. -/
def behN (A N : List Nat) : Option Nat := match wInt A, wInt N with
  | some a, some n => if a + n ≤ 1048576 then some (a + n) else none
  | _, _ => none
theorem wInt_lt {A : List Nat} {a : Nat} (h : wInt A = some a) : a < 9223372036854775808 := by
  unfold wInt at h
  split at h
  · cases h; assumption
  · cases h
set_option maxHeartbeats 1000000
end Go.Proofs.Ytklpcppdjcedpaa
