/- path.Pack. -/
import Derived.Test.YtgdojomaknbheaaP6
namespace Go.Proofs.Ytgdojomaknbheaa
open Go.RowKit

theorem RdA.ofBlkT {X : List Nat} {w : World} {b : Nat} {t : TypeId} {l : List Nat} (h : Blk w b t (bc l.length fun i => l.getD i 0)) (hl : ∀ x ∈ l, x < 256) (hb : b ∉ X) : RdA X w (.slice (some ⟨b, 0, none⟩) l.length l.length) l :=
  ⟨_, _, rfl, Nat.le_refl _, hl, fun _ => ⟨b, 0, rfl, h.lt, hb, fun i hi => by rw [Nat.zero_add]; exact h.cell (bc_get hi)⟩⟩
theorem wr_cons (f : Nat → Nat) (a : Nat) (l : List Nat) : wr (wr f 0 [a]) 1 l = wr f 0 (a :: l) := by
  funext i
  unfold wr
  cases i with
  | zero => simp
  | succ i =>
    simp only [List.length_cons, List.length_nil]
    by_cases h : i < l.length
    · rw [if_pos (by omega), if_pos (by omega)]; simp
    · rw [if_neg (by omega), if_neg (by omega), if_neg (by omega)]
theorem pair_type : Try.prog.underlying 37 = some (.array 2 5) := by kernel_rfl
theorem pair_size : (Try.prog.info? 37).map (·.size) = some 2 := by kernel_rfl
theorem pair_zero : (Try.prog.info? 37).bind (·.zero) = some (.agg (bc 2 fun _ => 0)) := by kernel_rfl
/-- The first join of Pack: two half bytes into the first byte. -/
theorem pack_front {w w1 : World} {b7 b6 M c0 c1 : Nat} {f : Nat → Nat} (hS : St [] w w1 [(b7, 37, #[.int .u8 (c0 : Int), .int .u8 (c1 : Int)]), (b6, 5, bc M f)]) (hM : 1 ≤ M) (h0 : c0 < 16) (h1 : c1 < 256) :
    Calls Try.prog 18 #[.slice (some ⟨b6, 0, none⟩) 1 M, .slice (some ⟨b7, 0, none⟩) 2 2] w1 fun e w2 => e = .returned (.bool (decide (c1 < 16))) ∧ ∃ f', St [] w w2 [(b7, 37, #[.int .u8 (c0 : Int), .int .u8 (c1 : Int)]), (b6, 5, bc M f')] ∧ (c1 < 16 → f' = wr f 0 [16 * c0 + c1]) := by
  have hne := hS.apart2
  refine (join_any (some ⟨b6, 0, none⟩) 1 M b6 0 M _ [c0, c1] 5 f w1 (fun _ => rfl) (by simp) (by omega) (by simp) (RdA.ofBlkT (l := [c0, c1]) (t := 37) (hS.get .head) (by intro x hx; simp at hx; omega) (by simp; exact hne)) (hS.get (.tail .head))).mono ?_
  rintro e w2 ⟨rfl, hT, f', hB, hf⟩
  have e1 : allN ([c0, c1].take (2 * 1)) = decide (c1 < 16) := by
    show allN [c0, c1] = _
    rw [allN_cons, allN_cons]; simp [allN, h0]
  rw [e1] at hf ⊢
  exact ⟨rfl, f', hS.on1 (.tail .head) hT hB, fun h => hf (by simpa using h)⟩
/-- The second join of Pack: the path's other half bytes behind it. -/
theorem pack_back {w w1 : World} {b7 b6 M m cm : Nat} {pq : Option Addr} {v : Value} {c : Array Value} {f : Nat → Nat} {q : List Nat} (hS : St [] w w1 [(b7, 37, c), (b6, 5, bc M f)]) (hM : M = 1 + m) (hq : q.length = 2 * m) (hm : m ≤ 1000000) (hp : m ≠ 0 → pq = some ⟨b6, 1, none⟩) (hv : RdA [] w v q) :
    Calls Try.prog 18 #[.slice pq m cm, v] w1 fun e w2 => e = .returned (.bool (allN q)) ∧ ∃ f', St [] w w2 [(b7, 37, c), (b6, 5, bc M f')] ∧ (allN q = true → f' = wr f 1 (jn q)) := by
  refine (join_any pq m cm b6 1 M _ q 5 f w1 hp (by omega) (by omega) (by omega) (hv.fresh hS.frame ((hS.own (.tail .head)).resolve_right (by simp))) (hS.get (.tail .head))).mono ?_
  rintro e w2 ⟨rfl, hT, f', hB, hf⟩
  have e1 : q.take (2 * m) = q := List.take_of_length_le (by omega)
  rw [e1] at hf ⊢
  exact ⟨rfl, f', hS.on1 (.tail .head) hT hB, hf⟩
theorem RdA.at_ {X : List Nat} {w : World} {p : Option Addr} {n c : Nat} {l : List Nat} (h : RdA X w (.slice p n c) l) (hl : l ≠ []) : ∃ b o, p = some ⟨b, o, none⟩ ∧ b < w.heap.size ∧ b ∉ X ∧ ∀ i, i < l.length → w.cell? ⟨b, o + i, none⟩ = some (.int .u8 ((l.getD i 0 : Nat) : Int)) := by
  obtain ⟨_, _, h1, _, _, h4⟩ := h
  cases h1
  exact h4 hl
theorem packL_eq {l q : List Nat} {leaf : Bool} {c0 c1 : Nat} (hfl : fr l leaf ++ l = c0 :: c1 :: q) (hq : q.length % 2 = 0) (h0 : c0 < 16) : packL l leaf = if c1 < 16 ∧ allN q = true then some ((16 * c0 + c1) :: jn q) else none := by
  unfold packL joinL
  rw [hfl]
  have e : allN (c0 :: c1 :: q) = (decide (c1 < 16) && allN q) := by rw [allN_cons, allN_cons]; simp [h0]
  have e2 : (c0 :: c1 :: q).length % 2 = 0 := by simp only [List.length_cons]; omega
  by_cases h1 : c1 < 16
  · cases ha : allN q with
    | true => rw [if_pos ⟨e2, by rw [e, ha]; simp [h1]⟩, if_pos ⟨h1, rfl⟩]; rfl
    | false => rw [if_neg (fun h => by rw [e, ha] at h; simp at h), if_neg (fun h => by cases h.2)]
  · rw [if_neg (fun h => by rw [e] at h; simp at h; exact h1 h.2.1), if_neg (fun h => h1 h.1)]
theorem pack_end {w w6 : World} {b7 b6 M c0 c1 m : Nat} {c : Array Value} {f5 f6 : Nat → Nat} {l q : List Nat} {leaf : Bool} (hfl : fr l leaf ++ l = c0 :: c1 :: q) (hq : q.length = 2 * m) (hM : M = 1 + m) (h0 : c0 < 16) (h1 : c1 < 16) (ha : allN q = true)
    (hf5 : f5 = wr (fun _ => 0) 0 [16 * c0 + c1]) (hf6 : f6 = wr f5 1 (jn q)) (hS : St [] w w6 [(b7, 37, c), (b6, 5, bc M f6)]) : OptPost w (packL l leaf) (.returned (.tuple #[.slice (some ⟨b6, 0, none⟩) M M, .bool true])) w6 := by
  subst hf5 hf6
  have hB := hS.get (.tail .head)
  rw [wr_cons] at hB
  refine optpost_yes (l := (16 * c0 + c1) :: jn q) (by rw [packL_eq hfl (by omega) h0, if_pos ⟨h1, ha⟩]) hS.frame (RdA.ofBlk' hB (by simp only [List.length_cons, jn_length]; omega) (fun x hx => ?_) (by simp))
  rcases List.mem_cons.1 hx with rfl | hx
  · omega
  · exact jn_lt q ha x hx
theorem pack_none {l q : List Nat} {leaf : Bool} {c0 c1 : Nat} (hfl : fr l leaf ++ l = c0 :: c1 :: q) (hq : q.length % 2 = 0) (h0 : c0 < 16) (h : ¬ (c1 < 16 ∧ allN q = true)) : packL l leaf = none := by
  rw [packL_eq hfl hq h0, if_neg h]
section
variable {o : Oper} {a : Act} {ops : Array Oper} {rest : List Oper} {C : World → Prop} {Q : Act → Prop}
/-- A reslice. -/
theorem k_sl {ty : TypeId} {x : Operand} {lo hi mx : Option Operand} {v r : Value} {l h m : Option Value} (hw : Region.wanted o (yielded ops a.tmps) = true) (ho : o.op = .slice ty x lo hi mx) (hx : a.eval x = v) (hl : lo.map a.eval = l) (hh : hi.map a.eval = h) (hmx : mx.map a.eval = m)
    (hr : ∀ w, (Instr.sliceAt ty v l h m).run Try.prog w = .ok r w) (hk : KQ ops C Q rest (a.put o.dst r)) : KQ ops C Q (o :: rest) a :=
  k_pure hw (fun w => by
    unfold execOp
    simp only [ho, hx, hl, hh, hmx, Sem.run_bind, hr, Result.andThen_ok, Sem.run_pure]) hk
end
theorem slice_to (b o n c k : Nat) (hk : k ≤ n) (hc : n ≤ c) (w : World) : (Instr.sliceAt 22 (.slice (some ⟨b, o, none⟩) n c) none (some (.int .i64 (k : Int))) none).run Try.prog w = .ok (.slice (some ⟨b, o, none⟩) k c) w := by
  have hel : Try.prog.elem 22 = 5 := by kernel_rfl
  have ht : Try.prog.underlying 22 = some (.slice (Try.prog.elem 22)) := by rw [hel]; exact bytes_ty
  have e1 := run_sliceAt_slice (P := Try.prog) (w := w) 22 (.slice (some ⟨b, o, none⟩) n c) none (some (.int .i64 (k : Int))) none ht
  have e2 := run_slice_h (P := Try.prog) (w := w) 22 (some ⟨b, o, none⟩) n c ht .i64 (k : Int) (by omega) (by omega)
  rw [e1, e2, hel, sizeOf_u8]
  simp [Result.andThen, sliced, Addr.add]
theorem pair_slice (b : Nat) (w : World) : (Instr.sliceAt 37 (.pointer (some ⟨b, 0, none⟩)) none none none).run Try.prog w = .ok (.slice (some ⟨b, 0, none⟩) 2 2) w := by
  go_simp
end Go.Proofs.Ytgdojomaknbheaa
