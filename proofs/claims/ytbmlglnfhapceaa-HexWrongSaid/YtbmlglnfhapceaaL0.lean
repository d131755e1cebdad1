/- What the laws of hex share: the example that each begins with, arrays of bytes held against each other, what the calls come to. -/
import Derived.Test.YtbmlglnfhapceaaHA
import Derived.Test.YtbmlglnfhapceaaF1
import Derived.Stop.BytesEq
namespace Go.Proofs.Ytbmlglnfhapceaa
open Go.RowKit

def bytesOf (n : Nat) (f : Nat → Nat) : List UInt8 := (List.range n).map fun i => UInt8.ofNat (f i)
theorem bc_bytes (n : Nat) (f : Nat → Nat) (h : ∀ i, i < n → f i < 256) : bc n f = ((bytesOf n f).map Extern.Stop.cell).toArray := by
  unfold bytesOf
  rw [List.map_map]
  show ((List.range n).map fun i => Value.int .u8 ((f i : Nat) : Int)).toArray = _
  congr 1
  apply List.map_congr_left
  intro i hi
  simp only [Function.comp, Extern.Stop.cell]
  have h := h i (List.mem_range.1 hi)
  congr 1
  simp [Nat.mod_eq_of_lt h]
theorem run_eql_arr {ty n : Nat} (hty : Try.prog.underlying ty = some (.array n 5)) (f : Nat → Nat) (h : ∀ i, i < n → f i < 256) (w : World) : (binOp .eql ty (.agg (bc n f)) (.agg (bc n f))).run Try.prog w = .ok (.bool true) w := by
  have := run_eql_bytes (P := Try.prog) w ty 5 n hty byte_ty (fun w => sizeOf_one u8_size w) (bytesOf n f) (bytesOf n f) (by simp [bytesOf]) (by simp [bytesOf])
  rw [← bc_bytes n f h, beq_self_eq_true] at this
  exact this
set_option maxHeartbeats 1000000 in
set_option maxRecDepth 100000 in
theorem alive_any (w : World) : Calls Try.prog 7 #[] w fun e w' => e = .returned (.bool true) ∧ Tch [] w w' := by
  have h1 := fun w1 => rOf_any 255 (by omega) w1
  have e255 : wint 255 = 255 := wint_nat (n := 255) (by unfold M256; decide)
  rw [e255] at h1
  have h2 := fun w1 => hexShort_any 255 (by unfold M256; decide) w1
  obtain ⟨t, ht⟩ : ∃ t : ByteArray, t = ⟨(shortL (byt 255)).toArray⟩ := ⟨_, rfl⟩
  rw [← ht] at h2
  have hb : (t.toList == [48, 120, 102, 102]) = true := by
    rw [ht, ByteArray.toList_eq]
    have : shortL (byt 255) = [48, 120, 102, 102] := by decide +kernel
    rw [this]; rfl
  have hT0 := Tch.refl [] w
  clear ht e255
  go_enter Try.func7, Try.ntmps7
  go_wp2_with (first | (go_at_call 19; refine (h1 _).mono ?_; rintro e w1 ⟨rfl, hT1⟩) | (go_at_call 16; refine (h2 _).mono ?_; rintro e w2 ⟨rfl, hT2⟩))
  go_ret
  exact ⟨rfl, hT1.trans hT2⟩
/-- What a text's bytes are, or none. -/
def rdL (s : ByteArray) : List Nat := bif rdOk s then prs (s.data.toList.drop 2) ((s.size - 2) / 2) else []
theorem HexPost.both {s : ByteArray} {w w' : World} {bad ok : Value} {e : Ending} (h : HexPost s w bad e w' ok) : ∃ v, e = .returned (.tuple #[v, bif rdOk s then ok else bad]) ∧ RdB w' v (rdL s) ∧ Tch [] w w' := by
  unfold rdL
  cases hk : rdOk s with
  | false =>
    have := h.2
    rw [hk, if_neg (by decide)] at this
    exact ⟨_, this, RdB.nil _, h.1⟩
  | true =>
    have := h.2
    rw [hk, if_pos rfl] at this
    obtain ⟨v, h1, h2⟩ := this
    exact ⟨v, h1, h2, h.1⟩
theorem ArrPost.both {n : Nat} {w w' : World} {ok : Bool} {f : Nat → Nat} {yes no : Value} {e : Ending} (h : ArrPost n w ok f yes no e w') : e = .returned (.tuple #[.agg (bc n (if ok then f else fun _ => 0)), bif ok then yes else no]) ∧ Tch [] w w' := by
  refine ⟨?_, h.1⟩
  rw [h.2]
  cases ok <;> rfl
theorem pick_int (k : Bool) : (bif k then Value.int .i64 0 else Value.int .i64 2) = .int .i64 (bif k then 0 else 2) := by cases k <;> rfl
theorem pick_bool (k : Bool) : (bif k then Value.bool true else Value.bool false) = .bool k := by cases k <;> rfl
/-- What is quiet in a class of worlds, in the text's own order. -/
theorem wpList_of_quiet {P : Program} {ops : Array Oper} {C : World → Prop} {Q : Exit → Act → World → Prop} : ∀ (l : List Oper) (a : Act) (w : World), C w → wpQuiet P ops C (fun a' => ∀ w', C w' → Q .normal a' w') l a → wpList P ops Q l a w
  | [], a, w, hC, h => h w hC
  | o :: rest, a, w, hC, h => by
    unfold wpQuiet at h
    unfold wpList
    split
    · rename_i hw
      rw [if_pos hw] at h
      exact .inl (Oper.wp_of_quiet hC (fun a w' hw' hK => wpList_of_quiet rest a w' hw' hK) h)
    · rename_i hw
      rw [if_neg hw] at h
      exact wpList_of_quiet rest _ w hC h
/-- A region in the text's order, all of it quiet. -/
theorem k_seq {id : Nat} {Q : Exit → Act → World → Prop} {a : Act} {w : World} {l : List Oper} {C : World → Prop} (hC : C w)
    (h : KQ l.toArray C (fun a' => ∀ w', C w' → Q .normal a' w') l a) : (Code.region id l.toArray false).wp Try.prog Q a w :=
  wp_region_lit (wpList_of_quiet l a w hC h.go)
section
variable {o : Oper} {a : Act} {ops : Array Oper} {rest : List Oper} {C : World → Prop} {Q : Act → Prop}
theorem k_in {v : Value} (hw : Region.wanted o (yielded ops a.tmps) = true) (hr : ∀ w, C w → (execOp a.eval o).run Try.prog w = .ok (.value v) w) (h : KQ ops C Q rest (a.put o.dst v)) : KQ ops C Q (o :: rest) a := by
  constructor
  unfold wpQuiet
  rw [if_pos hw]
  exact ⟨v, fun w hC => by unfold Oper.quietAt; rw [hr w hC]; exact ⟨rfl, rfl⟩, h.go⟩
/-- A call in the class. -/
theorem k_callC {v : Value} {f : FuncId} {ts : Array TypeId} {xs : Array Operand} {args : Array Value} (hw : Region.wanted o (yielded ops a.tmps) = true) (ho : o.op = .call { callee := .value (.func f), args := xs, argTypes := ts }) (ha : xs.map a.eval = args)
    (hf : ∀ args w, (callFunc f args).run Try.prog w = .ok (.enter f args) w) (hc : ∀ w, C w → Calls Try.prog f args w fun e w' => e = .returned v ∧ C w')
    (h : KQ ops C Q rest (a.put o.dst v)) : KQ ops C Q (o :: rest) a := by
  constructor
  unfold wpQuiet
  rw [if_pos hw]
  refine ⟨v, fun w hC => ?_, h.go⟩
  have hr : (execOp a.eval o).run Try.prog w = .ok (.enter f args) w := by
    unfold execOp; simp [ho, resolve, invoke, ha, hf, show a.eval (.func f) = .func (.func f) #[] #[] from rfl, Deferred.ofValue]
  unfold Oper.quietAt
  rw [hr]
  exact ⟨rfl, hc w hC⟩
theorem k_num {n : Int} {x : Operand} (hw : Region.wanted o (yielded ops a.tmps) = true) (ho : o.op = .call { callee := .value (.func 14), args := #[x], argTypes := #[24] }) (hx : a.eval x = .int .i64 n)
    (h : KQ ops C Q rest (a.put o.dst (.int .i64 n))) : KQ ops C Q (o :: rest) a :=
  k_callC hw ho (args := #[.int .i64 n]) (by simp [hx]) Try.call14 (fun w hC => (num_any n w).mono fun e w' ⟨h1, h2⟩ => ⟨h1, by subst h2; exact hC⟩) h
/-- An array is loaded whole, in worlds that hold it. -/
theorem k_loadC {b n n1 : Nat} {t e1 : TypeId} {c : Array Value} (hw : Region.wanted o (yielded ops a.tmps) = true) (ty : TypeId) (x : Operand) (ho : o.op = .load ty x) (hx : a.eval x = .pointer (some ⟨b, 0, none⟩)) (hB : ∀ w, C w → Blk w b t c)
    (hu : Try.prog.underlying ty = some (.array n1 e1)) (hi : (Try.prog.info? ty).map (·.size) = some n) (hn : c.size = n)
    (h : KQ ops C Q rest (a.put o.dst (.agg c))) : KQ ops C Q (o :: rest) a :=
  k_in hw (fun w hC => by
    have hl := (hB w hC).load (P := Try.prog) hu rfl hi hn
    unfold execOp
    simp only [ho, hx, Sem.run_bind, hl, Result.andThen_ok, Sem.run_pure]) h
/-- Bytes as a text. -/
theorem k_conv {v : Value} {l : List Nat} (hw : Region.wanted o (yielded ops a.tmps) = true) (x : Operand) (ho : o.op = .convert 23 9 x) (hx : a.eval x = v) (hv : ∀ w, C w → RdB w v l)
    (h : KQ ops C Q rest (a.put o.dst (.string (strB l)))) : KQ ops C Q (o :: rest) a :=
  k_in hw (fun w hC => by
    unfold execOp
    simp only [ho, hx, Sem.run_bind, conv_rd (hv w hC), Result.andThen_ok, Sem.run_pure]) h
/-- A text held against itself. -/
theorem k_strS {s : ByteArray} (hw : Region.wanted o (yielded ops a.tmps) = true) (x y : Operand) (yt : TypeId) (ho : o.op = .binOp .eql 9 x y yt) (hx : a.eval x = .string s) (hy : a.eval y = .string s)
    (h : KQ ops C Q rest (a.put o.dst (.bool true))) : KQ ops C Q (o :: rest) a :=
  k_pure hw (fun w => by unfold execOp; simp only [ho, hx, hy]; show Sem.run _ _ w = _; simp [eqGuard, binOp, Op.stringOp]) h
theorem k_arrS {n : Nat} {f : Nat → Nat} (hw : Region.wanted o (yielded ops a.tmps) = true) (ty : TypeId) (x y : Operand) (yt : TypeId) (ho : o.op = .binOp .eql ty x y yt) (hx : a.eval x = .agg (bc n f)) (hy : a.eval y = .agg (bc n f)) (hg : Try.prog.eqGuardType Try.prog.depth ty = false)
    (hty : Try.prog.underlying ty = some (.array n 5)) (hf : ∀ i, i < n → f i < 256)
    (h : KQ ops C Q rest (a.put o.dst (.bool true))) : KQ ops C Q (o :: rest) a :=
  k_pure hw (fun w => by unfold execOp; simp only [ho, hx, hy, Sem.run_bind, run_eqGuard_agg w .eql ty x y _ _ hg, Result.andThen_ok, run_eql_arr hty f hf w, Sem.run_pure]) h
theorem k_slice {p : Option Addr} {l c : Nat} (hw : Region.wanted o (yielded ops a.tmps) = true) (xo : Operand) (ho : o.op = .move xo) (hx : a.eval xo = .slice p l c)
    (h : KQ ops C Q rest (a.put o.dst (.slice p l c))) : KQ ops C Q (o :: rest) a := k_val hw xo (.inl ho) hx h
end
theorem RdB.slice {w : World} {v : Value} {l : List Nat} (h : RdB w v l) : ∃ p c, v = .slice p l.length c := by obtain ⟨p, c, h, _⟩ := h; exact ⟨p, c, h⟩
end Go.Proofs.Ytbmlglnfhapceaa
