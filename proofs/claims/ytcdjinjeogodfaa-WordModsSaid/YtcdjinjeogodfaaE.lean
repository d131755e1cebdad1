/- The state of a walk: the blocks that the call has made, each known whole, in one list. -/
import Derived.Test.YtcdjinjeogodfaaB3
import Derived.Test.YtcdjinjeogodfaaB4
import Derived.Test.YtcdjinjeogodfaaV3
namespace Go.Proofs.Ytcdjinjeogodfaa
open Go.RowKit

/-- A block's number, its type, its cells. -/
abbrev Ent := Nat × TypeId × Array Value
/-- An entry stands in the list. -/
inductive At : List Ent → Nat → TypeId → Array Value → Prop
  | head {L : List Ent} {b : Nat} {t : TypeId} {c : Array Value} : At ((b, t, c) :: L) b t c
  | tail {L : List Ent} {b : Nat} {t : TypeId} {c : Array Value} {e : Ent} (h : At L b t c) : At (e :: L) b t c
/-- An entry's cells are put in the place of others. -/
inductive Upd : List Ent → Nat → TypeId → Array Value → Array Value → List Ent → Prop
  | head {L : List Ent} {b : Nat} {t : TypeId} {c c' : Array Value} : Upd ((b, t, c) :: L) b t c c' ((b, t, c') :: L)
  | tail {L L' : List Ent} {b : Nat} {t : TypeId} {c c' : Array Value} {e : Ent} (h : Upd L b t c c' L') : Upd (e :: L) b t c c' (e :: L')
theorem Upd.at_ {L L' : List Ent} {b : Nat} {t : TypeId} {c c' : Array Value} (h : Upd L b t c c' L') : At L b t c := by
  induction h with
  | head => exact .head
  | tail _ ih => exact .tail ih

structure St (w0 w : World) (L : List Ent) : Prop where
  below : Below w0.heap.size w0 w
  blk : ∀ e ∈ L, Blk w e.1 e.2.1 e.2.2 ∧ w0.heap.size ≤ e.1
  apart : L.Pairwise fun e f => e.1 ≠ f.1

section
variable {w0 w w' : World} {L L' : List Ent} {b : Nat} {t : TypeId} {c c' : Array Value}
theorem At.mem (h : At L b t c) : (b, t, c) ∈ L := by
  induction h with
  | head => exact List.mem_cons_self
  | tail _ ih => exact List.mem_cons_of_mem _ ih
theorem St.start (w : World) : St w w [] := ⟨Below.refl _ _, fun _ h => by simp at h, .nil⟩
theorem St.get (h : St w0 w L) (m : At L b t c) : Blk w b t c := (h.blk _ m.mem).1
theorem St.le (h : St w0 w L) (m : At L b t c) : w0.heap.size ≤ b := (h.blk _ m.mem).2
theorem St.new (h : St w0 w L) (t : TypeId) (c : Array Value) : St w0 (w.alloc (.cells c t)) ((w.heap.size, t, c) :: L) :=
  ⟨h.below.alloc h.below.size _, fun e he => by
    rcases List.mem_cons.1 he with rfl | he
    · exact ⟨Blk.new w t c, h.below.size⟩
    · exact ⟨(h.blk e he).1.alloc _, (h.blk e he).2⟩,
   List.pairwise_cons.2 ⟨fun e he => Nat.ne_of_gt (h.blk e he).1.lt, h.apart⟩⟩
theorem St.call (h : St w0 w L) (hb : Below w.heap.size w w') : St w0 w' L :=
  ⟨h.below.trans (hb.mono h.below.size), fun e he => ⟨(h.blk e he).1.below hb (h.blk e he).1.lt, (h.blk e he).2⟩, h.apart⟩
theorem St.drew (h : St w0 w L) : St w0 w.drew L := ⟨h.below.drew, fun e he => ⟨(h.blk e he).1.drew, (h.blk e he).2⟩, h.apart⟩
theorem St.drewN (h : St w0 w L) (n : Nat) : St w0 (w.drewN n) L := ⟨below_drewN h.below n, fun e he => ⟨(h.blk e he).1.drewN n, (h.blk e he).2⟩, h.apart⟩
theorem Upd.mem' (h : Upd L b t c c' L') : ∀ e ∈ L', e = (b, t, c') ∨ e ∈ L := by
  induction h with
  | head => intro e he; rcases List.mem_cons.1 he with rfl | he; exact .inl rfl; exact .inr (List.mem_cons_of_mem _ he)
  | tail _ ih =>
    intro e he
    rcases List.mem_cons.1 he with rfl | he
    · exact .inr List.mem_cons_self
    · rcases ih e he with h | h
      · exact .inl h
      · exact .inr (List.mem_cons_of_mem _ h)
theorem Upd.names (h : Upd L b t c c' L') : L'.map (·.1) = L.map (·.1) := by
  induction h with
  | head => rfl
  | tail _ ih => simp [ih]
theorem Upd.others (h : Upd L b t c c' L') (ha : L.Pairwise fun e f => e.1 ≠ f.1) : ∀ e ∈ L', e = (b, t, c') ∨ (e ∈ L ∧ e.1 ≠ b) := by
  induction h with
  | head =>
    intro e he
    rcases List.mem_cons.1 he with rfl | he
    · exact .inl rfl
    · exact .inr ⟨List.mem_cons_of_mem _ he, fun hh => (List.pairwise_cons.1 ha).1 e he hh.symm⟩
  | tail hu ih =>
    intro e he
    have ha' := List.pairwise_cons.1 ha
    rcases List.mem_cons.1 he with rfl | he
    · exact .inr ⟨List.mem_cons_self, ha'.1 _ hu.at_.mem⟩
    · rcases ih ha'.2 e he with h | h
      · exact .inl h
      · exact .inr ⟨List.mem_cons_of_mem _ h.1, h.2⟩
theorem St.upd (h : St w0 w L) (hu : Upd L b t c c' L') (hO : Only b w w') (hB : Blk w' b t c') : St w0 w' L' :=
  ⟨h.below.trans (hO.below (h.le hu.at_)), fun e he => by
    rcases hu.others h.apart e he with rfl | ⟨he, hne⟩
    · exact ⟨hB, h.le hu.at_⟩
    · exact ⟨hO.blk hne (h.blk e he).1, (h.blk e he).2⟩,
   by
    have hn := hu.names
    have : (L.map (·.1)).Pairwise (· ≠ ·) := List.pairwise_map.2 h.apart
    rw [← hn] at this
    exact List.pairwise_map.1 this⟩
theorem Only.setRow (w : World) (b : Nat) (c : Array Value) : Only b w (w.setRow b c) :=
  ⟨rfl, rfl, rfl, by simp [World.setRow], fun k hk => setRow_other w b k c hk⟩
theorem St.neq {b' : Nat} {t' : TypeId} {d : Array Value} (h : St w0 w L) (m : At L b t c) (m' : At L b' t' d) (hd : ∀ e, ¬ (e = (b, t, c) ∧ e = (b', t', d))) : b ≠ b' := by
  have key : ∀ (L : List Ent), L.Pairwise (fun e f => e.1 ≠ f.1) → ∀ e ∈ L, ∀ f ∈ L, e.1 = f.1 → e = f := by
    intro L
    induction L with
    | nil => intro _ e he; simp at he
    | cons x L ih =>
      intro hp e he f hf hef
      have hp' := List.pairwise_cons.1 hp
      rcases List.mem_cons.1 he with h1 | h1 <;> rcases List.mem_cons.1 hf with h2 | h2
      · rw [h1, h2]
      · rw [h1] at hef; exact absurd hef (hp'.1 f h2)
      · rw [h2] at hef; exact absurd hef.symm (hp'.1 e h1)
      · exact ih hp'.2 e h1 f h2 hef
  intro hbb
  have := key L h.apart _ m.mem _ m'.mem hbb
  exact hd _ ⟨rfl, this⟩
end

section
variable {P : Program} {ops : Array Oper} {rest : List Oper} {o : Oper} {a : Act} {w0 w : World} {Q : Exit → Act → World → Prop} {L L' : List Ent} {b : Nat} {t : TypeId} {c c' : Array Value}
/-- A parameter is laid into memory. -/
theorem st_box (hS : St w0 w L) (hgd : o.guard = none) (ty : TypeId) (x : Operand) (ho : o.op = .box ty x) (hx : a.eval x = .agg c)
    (h : ∀ w' b, St w0 w' ((b, ty, c) :: L) → wpList P ops Q rest (a.put o.dst (.pointer (some ⟨b, 0, none⟩))) w') : wpList P ops Q (o :: rest) a w :=
  wpList_plain hgd fun K hK => by
    have hr : (Instr.box ty (.agg c)).run P w = .ok (.pointer (some ⟨w.heap.size, 0, none⟩)) (w.alloc (.cells c ty)) := rfl
    unfold Oper.wp execOp
    simp only [ho, hx, Sem.run_bind, hr, Result.andThen_ok, Sem.run_pure]
    exact hK _ _ (h _ _ (hS.new ty c))
/-- A variable is made. -/
theorem st_new (hS : St w0 w L) (hgd : o.guard = none) (ty : TypeId) (ho : o.op = .alloc ty) (hz : (P.info? ty).bind (·.zero) = some (.agg c))
    (h : ∀ w' b, St w0 w' ((b, ty, c) :: L) → wpList P ops Q rest (a.put o.dst (.pointer (some ⟨b, 0, none⟩))) w') : wpList P ops Q (o :: rest) a w :=
  wpList_plain hgd fun K hK => by
    have hr : (Instr.alloc ty true (.tuple #[])).run P w = .ok (.pointer (some ⟨w.heap.size, 0, none⟩)) (w.alloc (.cells c ty)) := by
      cases hq : P.info? ty with
      | none => simp [hq] at hz
      | some i =>
        have hz' : i.zero = some (.agg c) := by simpa [hq] using hz
        simp [Instr.alloc, zeroValue, typeInfo, hq, hz', newVar, newRow, Value.cells]
    unfold Oper.wp execOp
    simp only [ho, Sem.run_bind, hr, Result.andThen_ok, Sem.run_pure]
    exact hK _ _ (h _ _ (hS.new ty c))
/-- An array is loaded whole. -/
theorem st_load (hS : St w0 w L) (hgd : o.guard = none) (ty : TypeId) (x : Operand) (ho : o.op = .load ty x) (hx : a.eval x = .pointer (some ⟨b, 0, none⟩)) (m : At L b t c)
    {d : TypeDesc} (hu : P.underlying ty = some d) (hd : (match d with | .struct _ | .array _ _ => true | _ => false) = true) {n : Nat} (hi : (P.info? ty).map (·.size) = some n) (hn : c.size = n)
    (h : wpList P ops Q rest (a.put o.dst (.agg c)) w) : wpList P ops Q (o :: rest) a w :=
  arm_load hgd ty x ho hx ((hS.get m).load hu hd hi hn) h
/-- An array is stored whole. -/
theorem st_store (hS : St w0 w L) (hgd : o.guard = none) (ty : TypeId) (x y : Operand) (ho : o.op = .store ty x y) (hx : a.eval x = .pointer (some ⟨b, 0, none⟩)) (hy : a.eval y = .agg c') (m : Upd L b t c c' L')
    {n : Nat} (hi : (P.info? ty).map (·.size) = some n) (hn : c.size = n) (hn' : c'.size = n) (h1 : c'.all (·.oneCell') = true)
    (h : ∀ w', St w0 w' L' → wpList P ops Q rest (a.put o.dst undef) w') : wpList P ops Q (o :: rest) a w :=
  arm_store hgd ty x y ho hx hy ((hS.get m.at_).store hi hn hn' h1) (h _ (hS.upd m (Only.setRow _ _ _) ((hS.get m.at_).row _)))
/-- A number is stored into one cell. -/
theorem st_store1 {k : IntKind} {n : Int} {j : Nat} (hS : St w0 w L) (hgd : o.guard = none) (ty : TypeId) (x y : Operand) (ho : o.op = .store ty x y) (hx : a.eval x = .pointer (some ⟨b, j, none⟩)) (hy : a.eval y = .int k n) (hi : (P.info? ty).map (·.size) = some 1)
    (m : Upd L b t c (c.setIfInBounds j (.int k n)) L') (hj : j < c.size)
    (h : ∀ w', St w0 w' L' → wpList P ops Q rest (a.put o.dst undef) w') : wpList P ops Q (o :: rest) a w :=
  arm_store_int hgd ty x y ho hx hy hi (hS.get m.at_) hj fun w' hB hO => h w' (hS.upd m hO hB)
/-- The end: the result lies in memory. -/
theorem st_post {fn : Func} {R : Ending → World → Prop} (hS : St w0 w L) (p : Tmp) (ty : TypeId) (hr : fn.results = #[.cell p ty]) (hd0 : a.defers = [])
    (hp : a.tmps.getD p undef = .pointer (some ⟨b, 0, none⟩)) (m : At L b t c) {d : TypeDesc} {n : Nat}
    (hu : P.underlying ty = some d) (hd : (match d with | .struct _ | .array _ _ => true | _ => false) = true) (hi : (P.info? ty).map (·.size) = some n) (hn : c.size = n)
    (hR : Below w0.heap.size w0 w → R (.returned (.agg c)) w) : bodyPost P fn R .ret a w :=
  post_cell p ty hr hd0 hp (hS.get m) hu hd hi hn (hR hS.below)
end
theorem word_zero : (Try.prog.info? 23).bind (·.zero) = some (.agg (wf (byt 0))) := by rw [wf_zero]; kernel_rfl
theorem limbs_zero : (Try.prog.info? 42).bind (·.zero) = some (.agg (dig 4 0)) := by rw [dig_zero4]; kernel_rfl
theorem wide_zero : (Try.prog.info? 53).bind (·.zero) = some (.agg (dig 8 0)) := by rw [dig_zero8]; kernel_rfl
end Go.Proofs.Ytcdjinjeogodfaa
