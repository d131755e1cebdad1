/- A region that draws its order and holds one call whose value hangs on the world: reads are taken first, the call comes up alone, then the rest is quiet in a class of its own. -/
import Derived.Test.YtfdihphhmhgejaaM02
import Derived.Deep.RegionHeld3
import Derived.Test.YtfdihphhmhgejaaM12
import Derived.Test.YtfdihphhmhgejaaM17
set_option linter.unusedVariables false
set_option linter.unusedSimpArgs false
namespace Go.Proofs.Ytfdihphhmhgejaa
open Go.RowKit

section
variable {ops : Array Oper} {md : Region.Mode} {Q : Exit → Act → World → Prop} {S : World → Prop} {a : Act} {w : World} {fuel : Nat} {listed : Array Bool}
/-- What is quiet in a class within S is held. -/
theorem held_of_quiet {P : Program} {C : World → Prop} {R : Act → Prop} (hsub : ∀ w, C w → S w) (hR : ∀ a w, C w → R a → Q .normal a w) : ∀ (fuel : Nat) (listed : Array Bool) (a : Act) (w : World), C w → wpAnyQ P md ops C R fuel listed a → wpAnyH P md ops Q S fuel listed a w
  | 0, _, _, _, hw, h => ⟨h.1, hR _ _ hw h.2⟩
  | fuel + 1, _, _, _, hw, h => ⟨fun h0 => hR _ _ hw (h.1 h0), fun i hi => wpOp_of_qOp hw (fun a' w' hw' h' => ⟨hsub _ hw', held_of_quiet hsub hR fuel _ a' w' hw' h'⟩) (h.2 i hi)⟩
/-- Number k comes up alone. -/
theorem held_one {P : Program} (k : Nat) (hr : Region.ready md ops listed = [k]) (h : wpOp P ops Q k (fun a' w' => S w' ∧ wpAnyH P md ops Q S fuel (listed.setIfInBounds k true) a' w') a w) : wpAnyH P md ops Q S (fuel + 1) listed a w :=
  wpAnyH_all hr (by simp) (fun i hi => by
    have : i = k := by simpa using hi
    subst this; exact h)
/-- From number k on all is quiet in a class. -/
theorem held_rest {l : List Oper} (k : Nat) (C : World → Prop) (hs : Region.noSelect l.toArray = true) (hB : Region.lexFrom md l.toArray (l.drop k).length k listed = true) (hC : C w) (hsub : ∀ w, C w → S w)
    (h : KQ l.toArray C (fun a' => ∀ w', C w' → Q .normal a' w') (l.drop k) a) : wpAnyH Try.prog md l.toArray Q S (l.drop k).length listed a w :=
  held_of_quiet hsub (fun _ w' hw' h => h w' hw') _ _ _ _ hC (wpAnyQ_lex (C := C) hs (l.drop k) k listed a (fun j => by simp [List.getElem?_drop]) hB h.go)
/-- A value moved is taken first. -/
theorem held_val {l0 : List Oper} {o : Oper} {v : Value} (i : Nat) (hi : l0[i]? = some o) (hs : Region.noSelect l0.toArray = true) (hf : Region.free md l0.toArray listed i = true) (hr : (Region.ready md l0.toArray listed).contains i = true) (hQ : ∀ c a w, Q (.panic c) (a.put o.dst v) w → Q (.panic c) a w) (hS : S w)
    (hw : Region.wanted o (yielded l0.toArray a.tmps) = true) (xo : Operand) (ho : o.op = .move xo ∨ o.op = .assign xo) (hx : a.eval xo = v)
    (h : wpAnyH Try.prog md l0.toArray Q S fuel (listed.setIfInBounds i true) (a.put o.dst v) w) : wpAnyH Try.prog md l0.toArray Q S (fuel + 1) listed a w :=
  wpAnyH_take (by rw [List.getElem?_toArray]; exact hi) hs hf hr hQ (.inl ⟨hw, fun w _ => by unfold execOp; rcases ho with ho | ho <;> simp only [ho, hx] <;> rfl⟩) hS h
/-- Bytes turned into a text are taken first. -/
theorem held_conv {l0 : List Oper} {o : Oper} {v : Value} {l : List Nat} (i : Nat) (hi : l0[i]? = some o) (hs : Region.noSelect l0.toArray = true) (hf : Region.free md l0.toArray listed i = true) (hr : (Region.ready md l0.toArray listed).contains i = true) (hQ : ∀ c a w, Q (.panic c) (a.put o.dst (.string (strB l))) w → Q (.panic c) a w) (hS : S w)
    (hw : Region.wanted o (yielded l0.toArray a.tmps) = true) (x : Operand) (ho : o.op = .convert 22 9 x) (hx : a.eval x = v) (hv : ∀ w, S w → RdB w v l)
    (h : wpAnyH Try.prog md l0.toArray Q S fuel (listed.setIfInBounds i true) (a.put o.dst (.string (strB l))) w) : wpAnyH Try.prog md l0.toArray Q S (fuel + 1) listed a w :=
  wpAnyH_take (by rw [List.getElem?_toArray]; exact hi) hs hf hr hQ (.inl ⟨hw, fun w hS => by
    unfold execOp
    simp only [ho, hx, Sem.run_bind, conv_rd (hv w hS), Result.andThen_ok, Sem.run_pure]⟩) hS h
/-- The call itself. -/
theorem held_call {P : Program} {l0 : List Oper} {n : Nat} {o : Oper} {K : Act → World → Prop} {f : FuncId} {ts : Array TypeId} {x1 : Operand} {v1 : Value} {R : Ending → World → Prop} (ho : l0[n]? = some o) (hw : Region.wanted o (yielded l0.toArray a.tmps) = true)
    (hop : o.op = .call { callee := .value (.func f), args := #[x1], argTypes := ts }) (h1 : a.eval x1 = v1) (hf : ∀ args w, (callFunc f args).run P w = .ok (.enter f args) w)
    (hc : Calls P f #[v1] w R) (h : ∀ e w', R e w' → ∃ v, e = .returned v ∧ K (a.put o.dst v) w') : wpOp P l0.toArray Q n K a w :=
  o_callR (by rw [List.getElem?_toArray]; exact ho) hw (by unfold execOp; simp [hop, resolve, invoke, h1, hf, show a.eval (.func f) = .func (.func f) #[] #[] from rfl, Deferred.ofValue]) hc h
end
end Go.Proofs.Ytfdihphhmhgejaa

/- Steps for the laws of hashes. -/
namespace Go.Proofs.Ytfdihphhmhgejaa
open Go.RowKit

theorem byteN_ty : Try.prog.underlying 5 = some (.int .u8) := by kernel_rfl
def bytesOfN (n : Nat) (f : Nat → Nat) : List UInt8 := (List.range n).map fun i => UInt8.ofNat (f i)
theorem bc_bytesN (n : Nat) (f : Nat → Nat) (h : ∀ i, i < n → f i < 256) : bc n f = ((bytesOfN n f).map Extern.Stop.cell).toArray := by
  unfold bytesOfN
  rw [List.map_map]
  show ((List.range n).map fun i => Value.int .u8 ((f i : Nat) : Int)).toArray = _
  congr 1
  apply List.map_congr_left
  intro i hi
  simp only [Function.comp, Extern.Stop.cell]
  have h := h i (List.mem_range.1 hi)
  congr 1
  simp [Nat.mod_eq_of_lt h]
theorem run_eql_hash (l : List Nat) (w : World) : (binOp .eql 33 (.agg (wf (hashN l))) (.agg (wf (hashN l)))).run Try.prog w = .ok (.bool true) w := by
  have := run_eql_bytes (P := Try.prog) w 33 5 32 word_type byteN_ty (fun w => sizeOf_u8 w) (bytesOfN 32 (hashN l)) (bytesOfN 32 (hashN l)) (by simp [bytesOfN]) (by simp [bytesOfN])
  rw [← bc_bytesN 32 (hashN l) (fun i _ => outN_lt _ _), beq_self_eq_true, bc_wf] at this
  exact this
section
variable {a : Act} {w : World} {o : Oper}
theorem x_hash {l : List Nat} (xo yo : Operand) (yt : TypeId) (ho : o.op = .binOp .eql 33 xo yo yt) (hxe : a.eval xo = .agg (wf (hashN l))) (hye : a.eval yo = .agg (wf (hashN l))) : (execOp a.eval o).run Try.prog w = .ok (.value (.bool true)) w := by
  have := run_eql_hash l w
  unfold execOp
  simp only [ho, hxe, hye]
  show Sem.run _ _ w = _
  simp [eqGuard, this]
theorem st_hash {ops : Array Oper} {rest : List Oper} {Q : Exit → Act → World → Prop} {l : List Nat} (hgd : o.guard = none) (xo yo : Operand) (yt : TypeId) (ho : o.op = .binOp .eql 33 xo yo yt) (hxe : a.eval xo = .agg (wf (hashN l))) (hye : a.eval yo = .agg (wf (hashN l)))
    (h : wpList Try.prog ops Q rest (a.put o.dst (.bool true)) w) : wpList Try.prog ops Q (o :: rest) a w :=
  wpList_plain hgd fun K hK => by
    have := x_hash (w := w) xo yo yt ho hxe hye
    unfold Oper.wp
    rw [this]
    exact hK _ _ h
end
/-- The hash of one part that was just laid down. -/
theorem sum_new (v : Value) (l : List Nat) (W : World) (hv : RdB W v l) (hl : l.length < 1000000) :
    Calls Try.prog 19 #[.slice (some ⟨W.heap.size, 0, none⟩) 1 1] (W.alloc (.cells #[v] 22)) fun e w' => e = .returned (.agg (wf (hashN l))) ∧ Tch [] W w' :=
  (sum_one _ v l _ ((Blk.new W 22 #[v]).cell (j := 0) rfl) (Blk.new W 22 #[v]).lt (hv.tch ((Tch.refl [] W).alloc _) (by simp)) hl).mono fun e w' h => ⟨h.1, ((Tch.refl [] W).alloc _).trans h.2⟩
theorem keccak_rd (v : Value) (l : List Nat) (w : World) (hv : RdB w v l) (hl : l.length ≤ 1000000) :
    Calls Try.prog 11 #[v] w fun e w' => e = .returned (.agg (wf (hashN l))) ∧ Tch [] w w' := keccak_any v l w hl (hv.rdA (by simp))
section
variable {o : Oper} {a : Act} {ops : Array Oper} {rest : List Oper} {C : World → Prop} {Q : Act → Prop}
end
section
variable {ops : Array Oper} {md : Region.Mode} {Q : Exit → Act → World → Prop} {S : World → Prop} {a : Act} {w : World} {fuel : Nat} {listed : Array Bool} {o : Oper}
/-- What yields in every world that is met is taken first. -/
theorem held_in {l0 : List Oper} {v : Value} (i : Nat) (hi : l0[i]? = some o) (hs : Region.noSelect l0.toArray = true) (hf : Region.free md l0.toArray listed i = true) (hr : (Region.ready md l0.toArray listed).contains i = true) (hQ : ∀ c a w, Q (.panic c) (a.put o.dst v) w → Q (.panic c) a w) (hS : S w)
    (hw : Region.wanted o (yielded l0.toArray a.tmps) = true) (hx : ∀ w, S w → (execOp a.eval o).run Try.prog w = .ok (.value v) w)
    (h : wpAnyH Try.prog md l0.toArray Q S fuel (listed.setIfInBounds i true) (a.put o.dst v) w) : wpAnyH Try.prog md l0.toArray Q S (fuel + 1) listed a w :=
  wpAnyH_take (by rw [List.getElem?_toArray]; exact hi) hs hf hr hQ (.inl ⟨hw, fun w hS => by rw [hx w hS]⟩) hS h
/-- A slice is built. -/
theorem held_build {P : Program} {l0 : List Oper} {n m : Nat} {K : Act → World → Prop} {ty t : TypeId} {c : Array Value} {parts : Array (Nat × Operand)} (ho : l0[n]? = some o) (hw : Region.wanted o (yielded l0.toArray a.tmps) = true)
    (hop : o.op = .buildSlice ty m parts) (hr : (Instr.buildSlice ty m (parts.map fun (i, x) => (i, a.eval x))).run P w = .ok (.slice (some ⟨w.heap.size, 0, none⟩) m m) (w.alloc (.cells c t)))
    (h : K (a.put o.dst (.slice (some ⟨w.heap.size, 0, none⟩) m m)) (w.alloc (.cells c t))) : wpOp P l0.toArray Q n K a w := by
  unfold wpOp
  have ho' : l0.toArray[n]? = some o := by rw [List.getElem?_toArray]; exact ho
  simp only [ho', hw, if_true]
  refine .inl ?_
  unfold Oper.wp execOp
  simp only [hop, Sem.run_bind, hr, Result.andThen_ok, Sem.run_pure]
  exact h
theorem x_load {b n n1 : Nat} {t e1 : TypeId} {c : Array Value} (ty : TypeId) (x : Operand) (ho : o.op = .load ty x) (hx : a.eval x = .pointer (some ⟨b, 0, none⟩)) (hB : Blk w b t c)
    (hu : Try.prog.underlying ty = some (.array n1 e1)) (hi : (Try.prog.info? ty).map (·.size) = some n) (hn : c.size = n) : (execOp a.eval o).run Try.prog w = .ok (.value (.agg c)) w := by
  have hl := hB.load (P := Try.prog) hu rfl hi hn
  unfold execOp
  simp only [ho, hx, Sem.run_bind, hl, Result.andThen_ok, Sem.run_pure]
theorem x_pickT {t : Bool} (co xo yo : Operand) (ho : o.op = .pick co xo yo) (hc : a.eval co = .bool true) (hx : a.eval xo = .bool t) : (execOp a.eval o).run Try.prog w = .ok (.value (.bool t)) w := by
  unfold execOp; simp only [ho, hc, hx, asBool]; rfl
end
end Go.Proofs.Ytfdihphhmhgejaa

/- Paths: half bytes of bytes and back; path.split, the document's Split. -/
namespace Go.Proofs.Ytfdihphhmhgejaa
open Go.RowKit

/-- Half bytes, the high one first. -/
def nibs (l : List Nat) : List Nat := l.flatMap fun x => [x / 16, x % 16]
theorem nibs_nil : nibs [] = [] := rfl
theorem nibs_cons (x : Nat) (l : List Nat) : nibs (x :: l) = x / 16 :: x % 16 :: nibs l := rfl
theorem nibs_append (l m : List Nat) : nibs (l ++ m) = nibs l ++ nibs m := by simp [nibs]
theorem nibs_length : ∀ l : List Nat, (nibs l).length = 2 * l.length
  | [] => rfl
  | x :: l => by rw [nibs_cons]; simp only [List.length_cons, nibs_length l]; omega
theorem nibs_lt {l : List Nat} (h : ∀ x ∈ l, x < 256) : ∀ y ∈ nibs l, y < 16 := by
  intro y hy
  obtain ⟨x, hx, hy⟩ := List.mem_flatMap.1 hy
  have := h x hx
  simp only [List.mem_cons, List.not_mem_nil, or_false] at hy
  omega
theorem take_snoc {l : List Nat} {k : Nat} (h : k < l.length) : l.take (k + 1) = l.take k ++ [l.getD k 0] := by
  rw [List.take_succ_eq_append_getElem h]; simp [h]
theorem nibs_step {l : List Nat} {k : Nat} (h : k < l.length) : nibs (l.take (k + 1)) = (nibs (l.take k) ++ [l.getD k 0 / 16]) ++ [l.getD k 0 % 16] := by
  rw [take_snoc h, nibs_append, List.append_assoc]; rfl
theorem nibs_take_len {l : List Nat} {k : Nat} (h : k ≤ l.length) : (nibs (l.take k)).length = 2 * k := by
  rw [nibs_length, List.length_take, Nat.min_eq_left h]
theorem wr_snoc {n0 : Nat} {f : Nat → Nat} {o x : Nat} {m : List Nat} (h : o + m.length < n0) : (bc n0 (wr f o m)).setIfInBounds (o + m.length) (.int .u8 (x : Int)) = bc n0 (wr f o (m ++ [x])) := by
  rw [bc_set h]
  refine bc_congr fun i _ => ?_
  unfold wr
  rw [List.length_append, List.length_singleton]
  by_cases h1 : i = o + m.length
  · subst h1
    rw [if_pos rfl, if_pos (by omega), List.getD_eq_getElem?_getD, List.getElem?_append_right (by omega)]
    simp
  · rw [if_neg h1]
    by_cases h2 : o ≤ i ∧ i < o + m.length
    · rw [if_pos h2, if_pos (by omega), List.getD_eq_getElem?_getD, List.getD_eq_getElem?_getD, List.getElem?_append_left (by omega)]
    · rw [if_neg h2, if_neg (by omega)]
theorem shr4 (x : Nat) : (x : Int) / 16 = ((x / 16 : Nat) : Int) := by omega
theorem and15 (x : Nat) (h : x < 256) : bits BinOp.and IntKind.u8 (x : Int) 15 = ((x % 16 : Nat) : Int) := by
  have all : ∀ a : Fin 256, bits BinOp.and IntKind.u8 (a.val : Int) 15 = ((a.val % 16 : Nat) : Int) := by decide +kernel
  exact all ⟨x, h⟩
set_option maxHeartbeats 1000000 in
set_option maxRecDepth 100000 in
theorem split_any (pp : Option Addr) (n c bp op n0 : Nat) (v : Value) (l : List Nat) (t : TypeId) (f : Nat → Nat) (w : World) (hp : l ≠ [] → pp = some ⟨bp, op, none⟩) (hn : 2 * l.length ≤ n) (hn0 : op + 2 * l.length ≤ n0) (hm : l.length ≤ 100000000) (hv : RdA [bp] w v l) (hB : Blk w bp t (bc n0 f)) :
    Calls Try.prog 71 #[.slice pp n c, v] w fun e w' => e = .returned (.tuple #[]) ∧ Tch [bp] w w' ∧ Blk w' bp t (bc n0 (wr f op (nibs l))) := by
  have hS := St.one hB
  obtain ⟨p', n', c', rfl⟩ := slice_keep hv
  have hlen := hv.len
  obtain ⟨_, _, hq, hcap, hb, hc⟩ := id hv
  cases hq
  clear hlen
  have HP := Lib.hid hp
  have HC := Lib.hid hc
  have HB := Lib.hid hb
  clear hp hc hb hv hB
  go_enter Try.func71, Try.ntmps71
  go_wp2
  go_loopw [8] (fun i wr' => ∃ k : Nat, k ≤ l.length ∧ i = .int .i64 (k : Int) ∧ St [bp] w wr' [(bp, t, bc n0 (wr f op (nibs (l.take k))))]) (fun i _ => l.length - (intOf i).toNat)
  case atStart => exact ⟨0, Nat.zero_le _, rfl, by simpa [nibs, wr_nil] using hS⟩
  case round =>
    clear hS
    obtain ⟨k, hk, rfl, hS⟩ := hrel
    by_cases hlt : k < l.length
    · have hne : l ≠ [] := by intro e; subst e; simp at hlt
      obtain rfl := HP.out hne
      obtain ⟨b, o, rfl, hbw, hbX, hc⟩ := HC.out hne
      have hx := HB.out (l.getD k 0) (by rw [List.getD_eq_getElem?_getD, List.getElem?_eq_getElem hlt]; exact List.getElem_mem hlt)
      have hck := (hS.frame.cell (p := ⟨b, o + k, none⟩) hbw hbX).trans (hc k hlt)
      obtain ⟨x, hxx⟩ : ∃ x, x = l.getD k 0 := ⟨_, rfl⟩
      rw [← hxx] at hck hx
      have hst := nibs_step hlt
      rw [← hxx] at hst
      have HST := Lib.hid hst
      have HL := Lib.hid (nibs_take_len hk)
      have h16 := and15 x hx
      have H4 := Lib.hid (shr4 x)
      have hw1 : IntKind.i64.wrap (2 * (k : Int)) = 2 * (k : Int) := by rw [IntKind.wrap_i64]; omega
      have HS0 := Lib.hid (And.intro hn hn0)
      have HXX := Lib.hid hxx
      clear hc hxx hst
      go_wp2_with (first
        | (refine st_store1 (b := bp) (j := op + 2 * k) hS rfl 5 _ _ rfl (by rfl) rfl u8_size (by repeat (first | exact Upd.head | apply Upd.tail)) (by rw [bc_size]; omega) ?_; clear hS; intro w5 hS)
        | (refine st_store1 (b := bp) (j := op + (2 * k + 1)) hS rfl 5 _ _ rfl (by rfl) rfl u8_size (by repeat (first | exact Upd.head | apply Upd.tail)) (by rw [Array.size_setIfInBounds, bc_size]; omega) ?_; clear hS; intro w6 hS))
      go_roundw
      case rel =>
        refine ⟨k + 1, hlt, by go_num, ?_⟩
        rw [HST.out, ← wr_snoc (by rw [List.length_append, HL.out]; simp; omega), ← wr_snoc (by rw [HL.out]; omega), List.length_append, HL.out]
        rw [← H4.out]
        exact hS
      case measure => simp [intOf]; omega
    · obtain rfl : k = l.length := by omega
      go_wp2
      go_end0
      refine ⟨rfl, hS.frame, ?_⟩
      have := hS.get .head
      rwa [List.take_length] at this
end Go.Proofs.Ytfdihphhmhgejaa
