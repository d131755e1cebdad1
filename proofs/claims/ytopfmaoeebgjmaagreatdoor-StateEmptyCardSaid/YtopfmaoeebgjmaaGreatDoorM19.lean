/- The document's Of. -/
import Derived.Test.YtopfmaoeebgjmaaGreatDoorM01
import Derived.Test.YtopfmaoeebgjmaaGreatDoorM02
import Derived.Test.YtopfmaoeebgjmaaGreatDoorM03
import Derived.Test.YtopfmaoeebgjmaaGreatDoorM12
import Derived.Test.YtopfmaoeebgjmaaGreatDoorM18
import Derived.Maps.AppendAt
set_option linter.unusedVariables false
set_option linter.unusedSimpArgs false
namespace Go.Proofs.YtopfmaoeebgjmaaGreatDoor
section
open Go.RowKit
def M256 : Nat := 2 ^ 256
abbrev wcells (x : Nat) : Array Value := bc 32 (byt x)
theorem byt_testBit (x i j : Nat) : (byt x i).testBit j = (decide (j < 8) && x.testBit (8 * (31 - i) + j)) := by
  unfold byt
  rw [show 256 = 2 ^ 8 by rfl, Nat.testBit_mod_two_pow, Nat.testBit_div_two_pow]
  congr 2; omega
theorem eq_of_byt {x y : Nat} (hx : x < M256) (hy : y < M256) (h : ∀ i, i < 32 → byt x i = byt y i) : x = y := by
  apply Nat.eq_of_testBit_eq
  intro j
  by_cases hj : j < 256
  · have e := congrArg (·.testBit (j % 8)) (h (31 - j / 8) (by omega))
    simp only [byt_testBit] at e
    have hj8 : j % 8 < 8 := Nat.mod_lt _ (by omega)
    have hq : 8 * (31 - (31 - j / 8)) + j % 8 = j := by omega
    simpa [hj8, hq] using e
  · have h1 : x < 2 ^ j := Nat.lt_of_lt_of_le hx (Nat.pow_le_pow_right (by omega) (by omega))
    have h2 : y < 2 ^ j := Nat.lt_of_lt_of_le hy (Nat.pow_le_pow_right (by omega) (by omega))
    rw [Nat.testBit_lt_two_pow h1, Nat.testBit_lt_two_pow h2]
theorem wcells_inj {x y : Nat} (hx : x < M256) (hy : y < M256) (h : wcells x = wcells y) : x = y := by
  refine eq_of_byt hx hy fun i hi => ?_
  have e := congrArg (·[i]?) h
  simp only [bc_get (n := 32) hi, Option.some.injEq, Value.int.injEq, true_and] at e
  exact_mod_cast e
end
section
open Go.RowKit
def fpr (b : Nat) (v : Value) : List Nat := b :: v.ownBlock.toList
theorem mem_fpr {b : Nat} {v : Value} {x : Nat} : x ∈ fpr b v ↔ x = b ∨ v.ownBlock = some x := by
  unfold fpr
  cases v.ownBlock <;> simp [eq_comm]
structure RowIn (B : Nat) (ty e m : Nat) (w : World) (b : Nat) (v : Value) (n : Nat) (xs : List Value) : Prop where
  blk : Blk w b ty #[v]
  own : w.ownsRow B e m v n xs
  apart : v.ownBlock ≠ some b
  base : B ≤ b
structure Turned (w w' : World) (b : Nat) (v v' : Value) : Prop where
  tch : Tch (fpr b v) w w'
  fresh : ∀ k, v'.ownBlock = some k → v.ownBlock = some k ∨ w.heap.size ≤ k
section
variable {B : Nat} {ty e m : Nat} {w w' w'' : World} {b c : Nat} {v v' v'' u : Value} {n : Nat} {xs : List Value} {G : List Nat}
theorem own_far (h : w.ownsRow B e m v n xs) (hT : Tch G w w') (hG : ∀ k, v.ownBlock = some k → k ∉ G) : w'.ownsRow B e m v n xs := by
  obtain ⟨h1, h2⟩ := h
  refine ⟨h1, h2.imp id ?_⟩
  rintro ⟨g, cap, cur, rfl, hg, hb, h3⟩
  exact ⟨g, cap, cur, rfl, hg, by rw [hT.block g (Array.getElem?_eq_some_iff.1 hb).1 (hG g rfl)]; exact hb, h3⟩
theorem RowIn.lt (h : RowIn B ty e m w b v n xs) {x : Nat} (hx : x ∈ fpr b v) : B ≤ x ∧ x < w.heap.size := by
  rcases mem_fpr.1 hx with rfl | hx
  · exact ⟨h.base, h.blk.lt⟩
  · exact h.own.lt x hx
theorem RowIn.far (h : RowIn B ty e m w b v n xs) (hT : Tch G w w') (hG : ∀ x ∈ fpr b v, x ∉ G) : RowIn B ty e m w' b v n xs :=
  ⟨hT.blk h.blk (hG b (mem_fpr.2 (.inl rfl))), own_far h.own hT fun k hk => hG k (mem_fpr.2 (.inr hk)), h.apart, h.base⟩
theorem RowIn.call (h : RowIn B ty e m w b v n xs) (hT : Tch [] w w') : RowIn B ty e m w' b v n xs := h.far hT (by simp)
theorem Turned.refl (w : World) (b : Nat) (v : Value) : Turned w w b v v := ⟨Tch.refl _ _, fun _ h => .inl h⟩
theorem Turned.of_tch (h : Tch [] w w') (b : Nat) (v : Value) : Turned w w' b v v := ⟨h.mono (by simp), fun _ h => .inl h⟩
theorem Turned.trans (h : Turned w w' b v v') (k : Turned w' w'' b v' v'') : Turned w w'' b v v'' :=
  ⟨⟨k.tch.os.trans h.tch.os, k.tch.tape.trans h.tch.tape, k.tch.output.trans h.tch.output, Nat.le_trans h.tch.size k.tch.size, fun x hx hb => (k.tch.block x (Nat.lt_of_lt_of_le hx h.tch.size) fun hm => by
    rcases mem_fpr.1 hm with rfl | hm
    · exact hb (mem_fpr.2 (.inl rfl))
    · rcases h.fresh x hm with h1 | h1
      · exact hb (mem_fpr.2 (.inr h1))
      · omega).trans (h.tch.block x hx hb)⟩, fun k' hk => by
    rcases k.fresh k' hk with h1 | h1
    · exact h.fresh k' h1
    · exact .inr (Nat.le_trans h.tch.size h1)⟩
theorem RowIn.new {L : List Ent} (hB : Blk w b ty #[.slice none 0 0]) (hb : B ≤ b) : RowIn B ty e m w b (.slice none 0 0) 0 [] :=
  ⟨hB, ⟨by simp, .inl ⟨rfl, rfl⟩⟩, (by simp [Value.ownBlock]), hb⟩
theorem RowIn.slice (h : RowIn B ty e m w b v n xs) : ∃ p c, v = .slice p n c ∧ n ≤ c := by
  rcases h.own.2 with ⟨rfl, rfl⟩ | ⟨g, cap, cur, rfl, _, _, hn, _⟩
  · exact ⟨none, 0, rfl, Nat.le_refl _⟩
  · exact ⟨_, cap, rfl, hn⟩
end
set_option maxRecDepth 100000
set_option maxHeartbeats 1000000
end
section
open Go.RowKit
set_option maxRecDepth 100000
set_option maxHeartbeats 1000000
def Wd (W : List Nat) : Prop := W.length = 32 ∧ ∀ x ∈ W, x < 256
def bytesOfI (n : Nat) (f : Nat → Nat) : List UInt8 := (List.range n).map fun i => UInt8.ofNat (f i)
theorem bc_bytesI (n : Nat) (f : Nat → Nat) (h : ∀ i, i < n → f i < 256) : bc n f = ((bytesOfI n f).map Extern.Stop.cell).toArray := by
  unfold bytesOfI
  rw [List.map_map]
  show ((List.range n).map fun i => Value.int .u8 ((f i : Nat) : Int)).toArray = _
  congr 1
  apply List.map_congr_left
  intro i hi
  simp only [Function.comp, Extern.Stop.cell]
  have h := h i (List.mem_range.1 hi)
  congr 1
  simp [Nat.mod_eq_of_lt h]
theorem Wd.get {W : List Nat} (h : Wd W) : ∀ i, i < 32 → W.getD i 0 < 256 := fun i _ => by
  rw [List.getD_eq_getElem?_getD]
  cases hq : W[i]? with
  | none => decide
  | some y => exact h.2 y (List.mem_of_getElem? hq)
section
variable {o : Oper} {a : Act} {w : World}
end
section
variable (w : World)
end
section
variable {ops : Array Oper} {rest : List Oper} {o : Oper} {a : Act} {w : World} {Q : Exit → Act → World → Prop}
theorem st_x {v : Value} (hgd : o.guard = none) (hr : (execOp a.eval o).run Tryz.prog w = .ok (.value v) w) (h : wpList Tryz.prog ops Q rest (a.put o.dst v) w) : wpList Tryz.prog ops Q (o :: rest) a w :=
  wpList_plain hgd fun K hK => by
    unfold Oper.wp
    rw [hr]
    exact hK _ _ h
theorem tch_grow {w w' : World} {r : Option Nat} (h : w.grownBy w' r) : Tch r.toList w w' := ⟨h.os, h.tape, h.output, h.size, fun k hk hb => h.block k hk (fun e => hb (by rw [← e]; simp))⟩
end
theorem Only.tch {b : Nat} {w w' : World} (h : Only b w w') : Tch [b] w w' := ⟨h.os, h.tape, h.output, Nat.le_of_eq h.size.symm, fun k _ hk => h.block k (by simpa using hk)⟩
theorem RowIn.stored {B ty e m : Nat} {w w1 w2 : World} {b : Nat} {v v' : Value} {n n' : Nat} {xs xs' : List Value} (h : RowIn B ty e m w b v n xs) (hown : w1.ownsRow B e m v' n' xs') (hT : Tch v.ownBlock.toList w w1) (hf : ∀ k, v'.ownBlock = some k → v.ownBlock = some k ∨ w.heap.size ≤ k) (hB : Blk w2 b ty #[v']) (hO : Only b w1 w2) :
    RowIn B ty e m w2 b v' n' xs' ∧ Turned w w2 b v v' := by
  have hne : v'.ownBlock ≠ some b := fun e => by
    rcases hf b e with h1 | h1
    · exact h.apart h1
    · have := h.blk.lt; omega
  exact ⟨⟨hB, own_far hown hO.tch (fun k hk => by rw [List.mem_singleton]; intro e; rw [e] at hk; exact hne hk), hne, h.base⟩,
    (hT.mono fun x hx => .inl (by unfold fpr; exact List.mem_cons_of_mem _ hx)).trans (hO.tch.mono fun x hx => .inl (by unfold fpr; rw [List.mem_singleton.1 hx]; exact List.mem_cons_self)), hf⟩
theorem RowIn.kept {B ty e m : Nat} {w w' : World} {b : Nat} {v : Value} {n : Nat} {xs : List Value} {L : List Ent} (h : RowIn B ty e m w b v n xs) (hS : St [b] w w' L) (hA : At L b ty #[v]) : RowIn B ty e m w' b v n xs ∧ Turned w w' b v v :=
  ⟨⟨hS.get hA, own_far h.own hS.frame (fun k hk => by rw [List.mem_singleton]; intro e; rw [e] at hk; exact h.apart hk), h.apart, h.base⟩, hS.frame.mono (fun x hx => .inl (mem_fpr.2 (.inl (List.mem_singleton.1 hx)))), fun _ hk => .inl hk⟩
end
end Go.Proofs.YtopfmaoeebgjmaaGreatDoor
