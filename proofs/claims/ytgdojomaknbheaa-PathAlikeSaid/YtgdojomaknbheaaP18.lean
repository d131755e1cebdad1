/- Paths that go on unlike: facts; steps. -/
import Derived.Test.YtgdojomaknbheaaP16
namespace Go.Proofs.Ytgdojomaknbheaa
open Go.RowKit

theorem lcp_append : ∀ (p a b : List Nat), lcp (p ++ a) (p ++ b) = p.length + lcp a b
  | [], a, b => by simp
  | x :: p, a, b => by
    show (if x = x then lcp (p ++ a) (p ++ b) + 1 else 0) = _
    rw [if_pos rfl, lcp_append p a b, List.length_cons]; omega
/-- They go on unlike. -/
def unlike : List Nat → List Nat → Prop
  | x :: _, y :: _ => x ≠ y
  | _, _ => True
theorem lcp_unlike : ∀ (a b : List Nat), unlike a b → lcp a b = 0
  | [], _, _ => by cases ‹List Nat› <;> rfl
  | _ :: _, [], _ => rfl
  | x :: a, y :: b, h => by
    show (if x = y then _ else _) = 0
    rw [if_neg h]
theorem packL_none {l : List Nat} (leaf : Bool) (h : allN l = false) : packL l leaf = none := by
  unfold packL joinL
  rw [if_neg (fun e => by rw [allN_append, h, Bool.and_false] at e; exact absurd e.2 (by decide))]
theorem join_twice {l : List Nat} (h : allN l = false) : joinL (l ++ l) = none := by
  unfold joinL
  rw [if_neg (fun e => by rw [allN_append, h, Bool.and_false] at e; exact absurd e.2 (by decide))]
theorem join_twice' {l : List Nat} (h : allN l = true) : joinL (l ++ l) = some (jn (l ++ l)) := by
  unfold joinL
  rw [if_pos ⟨by rw [List.length_append]; omega, by rw [allN_append, h]; rfl⟩]
theorem pack_apart {l : List Nat} (h : allN l = true) : (jn (fr l true ++ l) != jn (fr l false ++ l)) = true := by
  rw [bne_iff_ne]
  intro e
  have h1 := read_pack true h
  rw [e, read_pack false h] at h1
  simp at h1
theorem pack_same {x y : List Nat} (hx : allN x = true) (hy : allN y = true) : (jn (fr x true ++ x) == jn (fr y true ++ y)) = (x == y) := by
  by_cases h : x = y
  · subst h; simp
  · rw [beq_eq_false_iff_ne.2 h, beq_eq_false_iff_ne]
    intro e
    have h1 := read_pack true hx
    rw [e, read_pack true hy] at h1
    simp at h1
    exact h h1.symm
theorem pack_lt {l : List Nat} (leaf : Bool) (h : allN l = true) : ∀ x ∈ jn (fr l leaf ++ l), x < 256 := by
  refine jn_lt _ ?_
  rw [allN_append, h, Bool.and_true]
  exact allN_iff.2 fun x hx => Nat.lt_of_lt_of_le (fr_lt l leaf x hx) (by decide)
/-- What is guarded by a test that was itself passed by is passed by. -/
theorem k_skipU {o : Oper} {a : Act} {ops : Array Oper} {rest : List Oper} {C : World → Prop} {Q : Act → Prop} {j d : Nat} {want : Bool} {p : Oper} (hg : o.guard = some (j, want)) (hp : ops[j]? = some p) (hd : p.dst = some d) (ht : a.tmps[d]? = some undef)
    (h : KQ ops C Q rest (a.put o.dst undef)) : KQ ops C Q (o :: rest) a := by
  refine ⟨q_skip ?_ h.go⟩
  have hy : yielded ops a.tmps j = none := by unfold yielded; simp only [hp, Option.bind_some, hd, ht]; rfl
  have hw : Region.wanted o (yielded ops a.tmps) = (yielded ops a.tmps j == some want) := by unfold Region.wanted; simp only [hg]
  rw [hw, hy]; rfl
/-- Two integers, the first one the greater. -/
theorem k_gtr {o : Oper} {a : Act} {ops : Array Oper} {rest : List Oper} {C : World → Prop} {Q : Act → Prop} {t : Bool} {m n : Int} (hw : Region.wanted o (yielded ops a.tmps) = true) (xo yo : Operand) (yt : TypeId) (ho : o.op = .binOp .gtr 3 xo yo yt)
    (hxe : a.eval xo = .int .i64 m) (hye : a.eval yo = .int .i64 n) (hxy : decide (n < m) = t) (h : KQ ops C Q rest (a.put o.dst (.bool t))) : KQ ops C Q (o :: rest) a :=
  k_pure hw (fun w => by unfold execOp; simp only [ho, hxe, hye]; show Sem.run _ _ w = _; simp [eqGuard, binOp, Op.intCmp, hxy]) h
end Go.Proofs.Ytgdojomaknbheaa
