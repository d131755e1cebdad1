/- Straight code, step by step. -/
import Derived.Test.YtopfmaoeebgjmaaGreatDoorM01
import Derived.Test.YtopfmaoeebgjmaaGreatDoorM03
import Derived.Deep.QuietTactic
import Derived.BigQuiet
set_option linter.unusedVariables false
set_option linter.unusedSimpArgs false
namespace Go.Proofs.YtopfmaoeebgjmaaGreatDoor
section
open Go.RowKit
structure KL (ops : Array Oper) (Q : Exit → Act → World → Prop) (l : List Oper) (a : Act) (w : World) : Prop where
  go : wpList Tryz.prog ops Q l a w
section
variable {ops : Array Oper} {o : Oper} {a : Act} {rest : List Oper} {C : World → Prop} {Q : Exit → Act → World → Prop} {w : World} {b : Nat}
theorem l_end (h : Q .normal a w) : KL ops Q [] a w := ⟨h⟩
theorem l_pure {v : Value} (hw : Region.wanted o (yielded ops a.tmps) = true) (hr : ∀ w, (execOp a.eval o).run Tryz.prog w = .ok (.value v) w) (h : KL ops Q rest (a.put o.dst v) w) : KL ops Q (o :: rest) a w := ⟨by
  unfold wpList
  rw [if_pos hw]
  refine .inl ?_
  unfold Oper.wp
  rw [hr w]
  exact h.go⟩
theorem l_nil (p : Addr) (hw : Region.wanted o (yielded ops a.tmps) = true) (x : Operand) (ho : o.op = .nilCheck x) (hx : a.eval x = .pointer (some p))
    (h : KL ops Q rest (a.put o.dst (.pointer (some p))) w) : KL ops Q (o :: rest) a w := l_pure hw (fun w => by unfold execOp; simp only [ho, hx]; rfl) h
theorem l_idx {n e : Nat} (j : Nat) (hw : Region.wanted o (yielded ops a.tmps) = true) (ty : TypeId) (x y : Operand) (ho : o.op = .indexAddr ty x y) (hx : a.eval x = .pointer (some ⟨b, 0, none⟩)) (hy : a.eval y = .int .i64 (j : Int)) (hu : Tryz.prog.underlying ty = some (.array n e)) (he : (Tryz.prog.info? e).map (·.size) = some 1) (hj : j < n)
    (h : KL ops Q rest (a.put o.dst (.pointer (some ⟨b, j, none⟩))) w) : KL ops Q (o :: rest) a w := l_pure hw (x_idx ty x y ho hx hy hu he hj) h
theorem l_store {bs : List Nat} {w0 : World} {L L' : List Ent} {t : TypeId} {c c' : Array Value} {k : IntKind} {n : Int} {j : Nat} (hS : St bs w0 w L) (hgd : o.guard = none) (ty : TypeId) (x y : Operand) (ho : o.op = .store ty x y) (hx : a.eval x = .pointer (some ⟨b, j, none⟩)) (hy : a.eval y = .int k n) (hi : (Tryz.prog.info? ty).map (·.size) = some 1)
    (hc : c.setIfInBounds j (.int k n) = c') (m : Upd L b t c c' L') (hj : j < c.size)
    (h : ∀ w', St bs w0 w' L' → KL ops Q rest (a.put o.dst undef) w') : KL ops Q (o :: rest) a w := ⟨st_store1 (j := j) hS hgd ty x y ho hx hy hi (by rw [hc]; exact m) hj fun w' hS' => (h w' hS').go⟩
theorem wpList_of_quietQ {Q' : Act → Prop} (hQ : ∀ a w, C w → Q' a → Q .normal a w) : ∀ (l : List Oper) (a : Act) (w : World), C w → wpQuiet Tryz.prog ops C Q' l a → wpList Tryz.prog ops Q l a w
  | [], a, w, hw, h => hQ a w hw h
  | o :: rest, a, w, hw, h => by
    unfold wpQuiet at h
    unfold wpList
    split
    · rename_i hwt
      rw [if_pos hwt] at h
      exact .inl (Oper.wp_of_quiet hw (fun a' w' hw' h' => wpList_of_quietQ hQ rest a' w' hw' h') h)
    · rename_i hwt
      rw [if_neg hwt] at h
      exact wpList_of_quietQ hQ rest _ w hw h
theorem k_plain {id : Nat} {l : List Oper} (hC : C w) (h : KQ l.toArray C (fun a' => ∀ w', C w' → Q .normal a' w') l a) : (Code.region id l.toArray false).wp Tryz.prog Q a w :=
  wp_region_list (wpList_of_quietQ (C := C) (fun a' w' hw' h' => h' w' hw') l a w hC h.go)
theorem l_plain {id : Nat} {l : List Oper} (h : KL l.toArray Q l a w) : (Code.region id l.toArray false).wp Tryz.prog Q a w := wp_region_list h.go
theorem wpQuiet_mono {Q1 Q2 : Act → Prop} (h : ∀ a, Q1 a → Q2 a) : ∀ (l : List Oper) (a : Act), wpQuiet Tryz.prog ops C Q1 l a → wpQuiet Tryz.prog ops C Q2 l a
  | [], a, hh => h a hh
  | o :: rest, a, hh => by
    unfold wpQuiet at hh ⊢
    split
    · rename_i hwt; rw [if_pos hwt] at hh; exact Oper.quiet_mono (fun a h' => wpQuiet_mono h rest a h') hh
    · rename_i hwt; rw [if_neg hwt] at hh; exact wpQuiet_mono h rest _ hh
theorem k_head {id : Nat} {l : List Oper} (n : Nat) (hm : Tryz.prog.follows .mixedOrders = true) (hB : Region.lexTailB .any l.toArray n = true) (hC : C w.drew)
    (h : KQ l.toArray C (fun a' => ∀ w', C w' → KL l.toArray Q (l.drop n) a' w') (l.take n) a) : (Code.region id l.toArray true).wp Tryz.prog Q a w :=
  k_region_head n hm hB hC ⟨by
    have e : ∀ a', (∀ w', C w' → KL l.toArray Q (l.drop n) a' w') → ∀ w', C w' → wpList Tryz.prog l.toArray Q (l.drop n) a' w' := fun a' h w' hw => (h w' hw).go
    exact wpQuiet_mono e _ _ h.go⟩
end
section
variable {ops : Array Oper} {o : Oper} {a : Act} {rest : List Oper} {Qa : Act → Prop} {bs : List Nat} {w0 : World} {L : List Ent} {v : Value} {f : FuncId} {ts : Array TypeId}
theorem k_c2 {x1 x2 : Operand} {v1 v2 : Value} (hw : Region.wanted o (yielded ops a.tmps) = true) (ho : o.op = .call { callee := .value (.func f), args := #[x1, x2], argTypes := ts }) (h1 : a.eval x1 = v1) (h2 : a.eval x2 = v2)
    (hc : (∀ args w, (callFunc f args).run Tryz.prog w = .ok (.enter f args) w) ∧ ∀ w, Calls Tryz.prog f #[v1, v2] w fun e w' => e = .returned v ∧ w = w')
    (h : KQ ops (fun w' => St bs w0 w' L) Qa rest (a.put o.dst v)) : KQ ops (fun w' => St bs w0 w' L) Qa (o :: rest) a := k_calls hw ho (by simp [h1, h2]) hc h
end
end
section
open Go.RowKit
def Bs (w : World) (b o n : Nat) (f : Nat → Nat) : Prop := b < w.heap.size ∧ ∀ i, i < n → w.cell? ⟨b, o + i, none⟩ = some (.int .u8 ((f i : Nat) : Int)) ∧ f i < 256
theorem Bs.tch {bs : List Nat} {w w' : World} {b o n : Nat} {f : Nat → Nat} (h : Bs w b o n f) (hT : Tch bs w w') (hb : b ∉ bs) : Bs w' b o n f :=
  ⟨Nat.lt_of_lt_of_le h.1 hT.size, fun i hi => ⟨by rw [hT.cell (p := ⟨b, o + i, none⟩) h.1 hb]; exact (h.2 i hi).1, (h.2 i hi).2⟩⟩
theorem Bs.skip {w : World} {b o n m : Nat} {f : Nat → Nat} (h : Bs w b o (m + n) f) : Bs w b (o + m) n (fun i => f (m + i)) :=
  ⟨h.1, fun i hi => by have := h.2 (m + i) (by omega); rwa [← Nat.add_assoc] at this⟩
theorem or_step {x v k : Nat} (hx : x < 2 ^ k) (hv : v < 256) (hk : k ≤ 56) : bits BinOp.or IntKind.u64 (x : Int) ((v : Int) * ((2 ^ k : Nat) : Int)) = ((x ||| v * 2 ^ k : Nat) : Int) := by
  have h1 : x < 18446744073709551616 := Nat.lt_of_lt_of_le hx (Nat.le_trans (Nat.pow_le_pow_right (by decide) hk) (by decide))
  have h2 : v * 2 ^ k < 18446744073709551616 := by
    have : v * 2 ^ k ≤ 255 * 2 ^ 56 := Nat.mul_le_mul (by omega) (Nat.pow_le_pow_right (by decide) hk)
    omega
  rw [← Int.natCast_mul]
  exact u64_or_nat _ _ h1 h2
theorem join_bits {v0 v1 v2 v3 v4 v5 v6 v7 : Nat} (h0 : v0 < 256) (h1 : v1 < 256) (h2 : v2 < 256) (h3 : v3 < 256) (h4 : v4 < 256) (h5 : v5 < 256) (h6 : v6 < 256) (h7 : v7 < 256) : (bits BinOp.or IntKind.u64 (bits BinOp.or IntKind.u64 (bits BinOp.or IntKind.u64 (bits BinOp.or IntKind.u64 (bits BinOp.or IntKind.u64 (bits BinOp.or IntKind.u64 (bits BinOp.or IntKind.u64 (v0 : Int) ((v1 : Int) * 256)) ((v2 : Int) * 65536)) ((v3 : Int) * 16777216)) ((v4 : Int) * 4294967296)) ((v5 : Int) * 1099511627776)) ((v6 : Int) * 281474976710656)) ((v7 : Int) * 72057594037927936)) = ((v0 ||| v1 * 2 ^ 8 ||| v2 * 2 ^ 16 ||| v3 * 2 ^ 24 ||| v4 * 2 ^ 32 ||| v5 * 2 ^ 40 ||| v6 * 2 ^ 48 ||| v7 * 2 ^ 56 : Nat) : Int) := by
  have a0 : v0 < 2 ^ 8 := h0
  have e1 := or_step a0 h1 (k := 8) (by decide)
  have a1 := or_next a0 (v := v1) h1
  have e2 := or_step a1 h2 (k := 16) (by decide)
  have a2 := or_next a1 (v := v2) h2
  have e3 := or_step a2 h3 (k := 24) (by decide)
  have a3 := or_next a2 (v := v3) h3
  have e4 := or_step a3 h4 (k := 32) (by decide)
  have a4 := or_next a3 (v := v4) h4
  have e5 := or_step a4 h5 (k := 40) (by decide)
  have a5 := or_next a4 (v := v5) h5
  have e6 := or_step a5 h6 (k := 48) (by decide)
  have a6 := or_next a5 (v := v6) h6
  have e7 := or_step a6 h7 (k := 56) (by decide)
  have a7 := or_next a6 (v := v7) h7
  rw [show (v1 : Int) * 256 = (v1 : Int) * ((2 ^ 8 : Nat) : Int) from rfl, e1]
  rw [show (v2 : Int) * 65536 = (v2 : Int) * ((2 ^ 16 : Nat) : Int) from rfl, e2]
  rw [show (v3 : Int) * 16777216 = (v3 : Int) * ((2 ^ 24 : Nat) : Int) from rfl, e3]
  rw [show (v4 : Int) * 4294967296 = (v4 : Int) * ((2 ^ 32 : Nat) : Int) from rfl, e4]
  rw [show (v5 : Int) * 1099511627776 = (v5 : Int) * ((2 ^ 40 : Nat) : Int) from rfl, e5]
  rw [show (v6 : Int) * 281474976710656 = (v6 : Int) * ((2 ^ 48 : Nat) : Int) from rfl, e6]
  rw [show (v7 : Int) * 72057594037927936 = (v7 : Int) * ((2 ^ 56 : Nat) : Int) from rfl, e7]
set_option maxHeartbeats 4000000 in
set_option maxRecDepth 100000 in
theorem kjoin_any (b o n c : Nat) (f : Nat → Nat) (w : World) (hn : 8 ≤ n) (hB : Bs w b o n f) :
    Calls Tryz.prog 108 #[.slice (some ⟨b, o, none⟩) n c] w fun e w' => e = .returned (.int .u64 ((joinN f : Nat) : Int)) ∧ ∃ m, w' = w.drewN m := by
  have g0 := (hB.2 0 (by omega)).1
  have g1 := (hB.2 1 (by omega)).1
  have g2 := (hB.2 2 (by omega)).1
  have g3 := (hB.2 3 (by omega)).1
  have g4 := (hB.2 4 (by omega)).1
  have g5 := (hB.2 5 (by omega)).1
  have g6 := (hB.2 6 (by omega)).1
  have g7 := (hB.2 7 (by omega)).1
  have l0 := (hB.2 0 (by omega)).2
  have l1 := (hB.2 1 (by omega)).2
  have l2 := (hB.2 2 (by omega)).2
  have l3 := (hB.2 3 (by omega)).2
  have l4 := (hB.2 4 (by omega)).2
  have l5 := (hB.2 5 (by omega)).2
  have l6 := (hB.2 6 (by omega)).2
  have l7 := (hB.2 7 (by omega)).2
  rw [Nat.add_zero] at g0
  have hj : joinN f = f 0 ||| f 1 * 2 ^ 8 ||| f 2 * 2 ^ 16 ||| f 3 * 2 ^ 24 ||| f 4 * 2 ^ 32 ||| f 5 * 2 ^ 40 ||| f 6 * 2 ^ 48 ||| f 7 * 2 ^ 56 := rfl
  have hb := join_bits l0 l1 l2 l3 l4 l5 l6 l7
  rw [← hj] at hb
  generalize joinN f = J at *
  clear hj hB
  generalize f 0 = v0 at *
  generalize f 1 = v1 at *
  generalize f 2 = v2 at *
  generalize f 3 = v3 at *
  generalize f 4 = v4 at *
  generalize f 5 = v5 at *
  generalize f 6 = v6 at *
  generalize f 7 = v7 at *
  have HJ := hQz hb
  clear hb
  have uu : ∀ v : Nat, v < 256 → IntKind.u64.wrap (v : Int) = (v : Int) := fun v hv => by rw [IntKind.wrap_u64]; omega
  have q0 := uu v0 l0
  have q1 := uu v1 l1
  have q2 := uu v2 l2
  have q3 := uu v3 l3
  have q4 := uu v4 l4
  have q5 := uu v5 l5
  have q6 := uu v6 l6
  have q7 := uu v7 l7
  clear uu
  have d7 : decide (7 < (n : Int)) = true := by simp; omega
  have d0 : 0 < n := by omega
  have d1 : 1 < n := by omega
  have d2 : 2 < n := by omega
  have d3 : 3 < n := by omega
  have d4 : 4 < n := by omega
  have d5 : 5 < n := by omega
  have d6 : 6 < n := by omega
  go_enter Tryz.func108, Tryz.ntmps108
  go_wp2
  go_quiet (fail)
  go_wp2
  go_ret
  exact ⟨ret_int HJ.out, _, rfl⟩
end
end Go.Proofs.YtopfmaoeebgjmaaGreatDoor
