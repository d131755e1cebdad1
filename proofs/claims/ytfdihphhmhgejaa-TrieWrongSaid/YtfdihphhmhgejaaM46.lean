/- TrieWrong, case by case. -/
import Derived.Test.YtfdihphhmhgejaaM45
set_option linter.unusedVariables false
set_option linter.unusedSimpArgs false
namespace Go.Proofs.Ytfdihphhmhgejaa
open Go.RowKit Tr
set_option linter.unusedVariables false
set_option linter.unusedSimpArgs false
set_option maxRecDepth 100000

theorem RdB.rdB_off {w w' : World} {b : Nat} {t : TypeId} {c : Array Value} {v : Value} {l : List Nat} (h : RdB w v l) (hB : Blk w b t c) (hc : NoB c) (hO : Only b w w') : RdB w' v l :=
  ((h.offL (X := [b]) (fun x hx => by rw [List.mem_singleton.1 hx]; exact ⟨t, c, hB, hc⟩)).tch hO.tch).rdB
theorem tw_six {w w' : World} {b g : Nat} {t : TypeId} {c : Array Value} (hT : Tch [b] w w') (hB : Blk w b t c) (hc : NoB c) (hg : g = b ∨ w.heap.size ≤ g) : ∀ (v : Value) (l : List Nat), RdB w v l → RdA [g] w' v l := fun v l h => by
  have h1 : RdA [b] w v l := h.offL (X := [b]) (fun x hx => by rw [List.mem_singleton.1 hx]; exact ⟨t, c, hB, hc⟩)
  have h2 : RdA [b, g] w v l := h1.mono (fun y hy => by
    rcases List.mem_cons.1 hy with rfl | hy
    · exact .inl (List.mem_singleton_self _)
    · rw [List.mem_singleton.1 hy]
      rcases hg with rfl | hg
      · exact .inl (List.mem_singleton_self _)
      · exact .inr hg)
  exact (h2.tch (hT.mono (fun x hx => .inl (by rw [List.mem_singleton.1 hx]; exact List.mem_cons_self)))).mono (fun y hy => .inl (by rw [List.mem_singleton.1 hy]; simp))
theorem st_makeB2 {ops : Array Oper} {rest : List Oper} {o : Oper} {a : Act} {bs : List Nat} {w0 w : World} {Q : Exit → Act → World → Prop} {L : List Ent} (n : Nat) (hS : St bs w0 w L) (hgd : o.guard = none) (x y : Operand) (ho : o.op = .makeSlice 22 x y) (hx : a.eval x = .int .i64 (n : Int)) (hy : a.eval y = .int .i64 (n : Int)) (hn : n ≤ 16777216)
    (h : ∀ w' b, St bs w0 w' L → RdB w' (.slice (some ⟨b, 0, none⟩) n n) (zb n) → Tch [] w w' → w.heap.size ≤ b → wpList Try.prog ops Q rest (a.put o.dst (.slice (some ⟨b, 0, none⟩) n n)) w') : wpList Try.prog ops Q (o :: rest) a w :=
  st_makeN n hgd x y ho hx hy hn (h _ _ (hS.alloc _) (RdB.blk (Blk.new _ _ _) (by simp)) ((Tch.refl _ _).alloc _) (Nat.le_refl _))
theorem tw_set {cur : Array Value} {x1 y1 x2 y2 x3 y3 z : Value} (hc : cur.toList.take 6 = [x1, y1, x2, y2, x3, y3]) (hs : 6 ≤ cur.size) : (cur.setIfInBounds 2 z).toList.take 6 = [x1, y1, z, y2, x3, y3] := by
  rw [Array.toList_setIfInBounds, List.take_set, hc]
  rfl
theorem tw_vlong {n : Nat} (h : 1048576 < n) : mayE [([97], zb n), ([98], [50])] = 3 := may_long (p := ([97], zb n)) (by simp) (.inr (by show 1048576 < (zb n).length; rw [zb_len]; exact h))
theorem st_makeB1 {ops : Array Oper} {rest : List Oper} {o : Oper} {a : Act} {bs : List Nat} {w0 w : World} {Q : Exit → Act → World → Prop} {L : List Ent} (n : Nat) (z : Int) (hz : z = (n : Int)) (hS : St bs w0 w L) (hgd : o.guard = none) (x y : Operand) (ho : o.op = .makeSlice 22 x y) (hx : a.eval x = .int .i64 z) (hy : a.eval y = .int .i64 z) (hn : n ≤ 16777216)
    (h : ∀ w' b, St bs w0 w' L → RdB w' (.slice (some ⟨b, 0, none⟩) n n) (zb n) → Tch [] w w' → wpList Try.prog ops Q rest (a.put o.dst (.slice (some ⟨b, 0, none⟩) n n)) w') : wpList Try.prog ops Q (o :: rest) a w := by
  subst hz
  exact st_makeB0 n hS hgd x y ho hx hy hn h
theorem tw_may0 {k : Nat} (hk : k ≤ 64) : mayE [(zb k, [49]), ([98], [50])] = 0 :=
  may_zero (by simp) (fun p hp => by simp only [List.mem_cons, List.mem_nil_iff, or_false] at hp; rcases hp with rfl | rfl; exact ⟨by rw [zb_len]; exact hk, by simp⟩; simp) (fun p hp => by simp only [List.mem_cons, List.mem_nil_iff, or_false] at hp; rcases hp with rfl | rfl <;> simp) (by
    unfold Apart
    refine List.pairwise_cons.2 ⟨fun p hp => ?_, List.pairwise_singleton _ _⟩
    rw [List.mem_singleton.1 hp]
    exact zb_ne k (by decide))
theorem tw_may1 {k : Nat} (hk : k ≤ 64) : mayE [([97], [49]), (zb k, [50])] = 0 :=
  may_zero (by simp) (fun p hp => by simp only [List.mem_cons, List.mem_nil_iff, or_false] at hp; rcases hp with rfl | rfl; simp; exact ⟨by rw [zb_len]; exact hk, by simp⟩) (fun p hp => by simp only [List.mem_cons, List.mem_nil_iff, or_false] at hp; rcases hp with rfl | rfl <;> simp) (by
    unfold Apart
    refine List.pairwise_cons.2 ⟨fun p hp => ?_, List.pairwise_singleton _ _⟩
    rw [List.mem_singleton.1 hp]
    exact (zb_ne k (by decide)).symm)
theorem tw_wrap {k : Nat} (h : k ≤ 200) : IntKind.i64.wrap (65 + (k : Int)) = ((65 + k : Nat) : Int) := by
  simp [IntKind.wrap, IntKind.bits, IntKind.signed]
  omega
end Go.Proofs.Ytfdihphhmhgejaa
