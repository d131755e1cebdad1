/- What a key of a map is, read back; whether an address has an account. -/
import Derived.Test.YtopfmaoeebgjmaaGreatDoorM01
import Derived.Test.YtopfmaoeebgjmaaGreatDoorM03
import Derived.Test.YtopfmaoeebgjmaaGreatDoorM26
import Derived.Test.YtopfmaoeebgjmaaGreatDoorM31
import Derived.Maps.RangeWalk
set_option linter.unusedVariables false
set_option linter.unusedSimpArgs false
namespace Go.Proofs.YtopfmaoeebgjmaaGreatDoor
section
open Go.RowKit Go.WideMaps Go.ChangeMaps Go.MapKept
set_option maxRecDepth 100000
theorem arr_bytesY {n : Nat} {c : Array Value} (hs : c.size = n) (h : ∀ i, i < n → ∃ k : Nat, k < 256 ∧ c[i]? = some (.int .u8 (k : Int))) : ∃ l : List Nat, l.length = n ∧ (∀ b ∈ l, b < 256) ∧ c = arrV n l := by
  have hex : ∃ g : Nat → Nat, ∀ i, g i < 256 ∧ (i < n → c[i]? = some (.int .u8 ((g i : Nat) : Int))) := by
    refine ⟨fun i => if h' : i < n then (h i h').choose else 0, fun i => ?_⟩
    by_cases hi : i < n
    · simp only [hi, dif_pos]
      exact ⟨(h i hi).choose_spec.1, fun _ => (h i hi).choose_spec.2⟩
    · simp only [hi, dif_neg, not_false_eq_true]
      exact ⟨by omega, fun h => h.elim⟩
  obtain ⟨g, hg⟩ := hex
  refine ⟨(List.range n).map g, by simp, fun y hy => ?_, Array.ext_getElem? fun i => ?_⟩
  · obtain ⟨i, _, rfl⟩ := List.mem_map.1 hy
    exact (hg i).1
  · by_cases hi : i < n
    · rw [(hg i).2 hi]
      show _ = (bc n fun i => ((List.range n).map g).getD i 0)[i]?
      rw [bc_get hi]
      congr 3
      rw [List.getD_eq_getElem?_getD, List.getElem?_map, List.getElem?_range hi]
      rfl
    · rw [Array.getElem?_eq_none (by omega)]
      show _ = (bc n fun i => ((List.range n).map g).getD i 0)[i]?
      rw [bc_none (by omega)]
theorem keyOf_inv {n k : Nat} (A : ArrKey Tryz.prog k 5 n) {key : Value} {kl : Lit} (h : keyOf Tryz.prog k key = some kl) : ∃ l : List Nat, l.length = n ∧ (∀ b ∈ l, b < 256) ∧ key = .agg (arrV n l) ∧ kl = keyL l := by
  have h0 := h
  unfold keyOf at h
  simp only [A.hu] at h
  split at h
  case isFalse => cases h
  rename_i hc
  simp only [Bool.and_eq_true] at hc
  have hf := hc.2
  obtain ⟨xs, rfl, hs⟩ : ∃ xs, key = .agg xs ∧ xs.size = n := by
    unfold Value.formed at hf
    cases key <;> simp [A.hu] at hf
    exact ⟨_, rfl, by rw [hf, A.size]⟩
  cases hk : Tryz.prog.keyLits (Tryz.prog.types.size + 1) k (Value.agg xs).cells.toList with
  | none => rw [hk] at h; cases h
  | some ls =>
    unfold Program.keyLits at hk
    simp only [A.hu] at hk
    split at hk
    case isFalse => cases hk
    rw [A.one] at hk
    cases hm : (List.range n).mapM (fun i => Tryz.prog.keyLits Tryz.prog.types.size 5 (((Value.agg xs).cells.toList.drop (i * 1)).take 1)) with
    | none => rw [hm] at hk; cases hk
    | some r =>
      have hb : ∀ i, i < n → ∃ k : Nat, k < 256 ∧ xs[i]? = some (.int .u8 (k : Int)) := fun i hi => by
        have e := mapM_some_get hm i i (by simp [hi])
        have hr : ∃ y, r[i]? = some y := by
          have hl := mapM_some_length hm
          rw [List.length_range] at hl
          exact ⟨r[i], List.getElem?_eq_getElem (by omega)⟩
        obtain ⟨y, hy⟩ := hr
        rw [hy] at e
        have hi' : i < xs.size := by omega
        have e2 : ((Value.agg xs).cells.toList.drop (i * 1)).take 1 = [xs[i]] := by
          show (xs.toList.drop (i * 1)).take 1 = _
          rw [Nat.mul_one, List.drop_eq_getElem_cons (by simpa using hi')]
          simp
        rw [e2] at e
        obtain ⟨m0, hm0⟩ := types_pos
        rw [hm0] at e
        have hv0 : xs[i]? = some xs[i] := Array.getElem?_eq_getElem hi'
        generalize xs[i] = v at e hv0
        unfold Program.keyLits at e
        simp only [byte_tyY] at e
        cases v <;> simp at e
        rename_i nn
        have e1 := e.1
        clear e
        obtain ⟨rfl, hw⟩ := e1
        have hk : 0 ≤ nn ∧ nn ≤ 255 := by
          simp [Lit.wf, IntKind.min, IntKind.max, IntKind.bits, IntKind.signed] at hw
          omega
        refine ⟨nn.toNat, by omega, ?_⟩
        rw [hv0]
        congr 2; omega
      obtain ⟨l, h1, h2, h3⟩ := arr_bytesY hs hb
      subst h3
      refine ⟨l, h1, h2, rfl, ?_⟩
      rw [keyOf_arr A h1 h2] at h0
      exact (Option.some.inj h0).symm
theorem x_look2 {o : Oper} {a : Act} {w : World} {B N : Nat} {mv : Value} {F : List Nat → Option Nat} {A : List Nat} (hM : MapP B N w mv F) (hA : Ad A) (mo xo : Operand) (ho : o.op = .lookup 43 mo xo true) (hm : a.eval mo = mv) (hx : a.eval xo = .agg (av A)) : (execOp a.eval o).run Tryz.prog w = .ok (.value (.tuple #[ptrV (F A), .bool (F A).isSome])) w := by
  have hkey := keyOf_arr addrArr hA.1 hA.2
  rcases hM with ⟨rfl, h⟩ | ⟨r, n, D, rfl, h1, h2, h3, h4, h5⟩
  · have hr := Maps.look_nil (w := w) true addrKeyed mapA_ty (ptrA_zero w) hkey
    unfold execOp
    simp [ho, hm, hx, hr, h A, ptrV]
  · obtain ⟨es, clock, hb, F', hs, rfl⟩ := h3
    have hz := h5 A hA
    rcases Maps.fit_look true addrKeyed mapA_ty (ptrA_zero w) hb F' hkey with ⟨hrun, _, hat⟩ | ⟨e0, y, _, _, hrun, hRv, hat, _⟩
    · have hn : F A = none := by
        cases hF : F A with
        | none => rfl
        | some b =>
          have := (hz .nil).symm.trans (hat .nil)
          rw [hF] at this
          cases this
      rw [hn]
      unfold execOp
      simp [ho, hm, hx, hrun, ptrV]
    · cases hF : F A with
      | none =>
        have e1 := (hz .nil).symm.trans (hat .nil)
        have e2 := (hz (.lit (.int .i64 0))).symm.trans (hat _)
        rw [hF] at e1 e2
        have e3 : (DataW.nil : DataW Unit) = .lit (.int .i64 0) := e1.trans e2.symm
        cases e3
      | some b =>
        have e1 := (hz .nil).symm.trans (hat .nil)
        rw [hF] at e1
        have e2 : PtrR e0.val = some (ptrD (some b), y.2) := by rw [hRv, show ptrD (some b) = y.1 from e1]
        have e3 := PtrR_inv e2
        unfold execOp
        simp [ho, hm, hx, hrun, e3, ptrV]
end
section
open Go.RowKit Go.WideMaps Go.ChangeMaps Go.MapKept
set_option maxRecDepth 100000
set_option maxHeartbeats 2000000
def aC (A : List Nat) (n : Int) (x : Nat) (cv sv : Value) : Array Value := ((av A).toList ++ (Value.int .i64 n :: ((wcells x).toList ++ [cv, sv]))).toArray
end
section
open Go.RowKit Go.WideMaps Go.ChangeMaps Go.MapKept
set_option maxRecDepth 100000
set_option maxHeartbeats 2000000
section
variable {ops : Array Oper} {rest : List Oper} {o : Oper} {a : Act} {w w' : World} {Q : Exit → Act → World → Prop}
theorem st_to {v : Value} (hgd : o.guard = none) (hr : (execOp a.eval o).run Tryz.prog w = .ok (.value v) w') (h : wpList Tryz.prog ops Q rest (a.put o.dst v) w') : wpList Tryz.prog ops Q (o :: rest) a w :=
  wpList_plain hgd fun K hK => by
    unfold Oper.wp
    rw [hr]
    exact hK _ _ h
theorem acctA_info : (Tryz.prog.info? 49).map (fun i => (i.zero, i.size, i.bytes)) = some (some (.agg (aC [] 0 0 (.slice none 0 0) (.slice none 0 0))), 55, 112) := by kernel_rfl
theorem acctsA_ty : Tryz.prog.underlying 31 = some (.slice 49) := by kernel_rfl
theorem st_makeA0 (x y : Operand) (hgd : o.guard = none) (ho : o.op = .makeSlice 31 x y) (hx : a.eval x = .int .i64 0) (hy : a.eval y = .int .i64 0)
    (h : ∀ w' b, Tch [] w w' → w.heap.size ≤ b → wpList Tryz.prog ops Q rest (a.put o.dst (.slice (some ⟨b, 0, none⟩) 0 0)) w') : wpList Tryz.prog ops Q (o :: rest) a w :=
  wpList_plain hgd fun K hK => by
    obtain ⟨i, hi, hz, hs, hb⟩ := info_parts acctA_info
    have hr := run_makeSlice (P := Tryz.prog) w 31 49 i _ acctsA_ty hi hz .i64 .i64 0 0 (by decide) (by decide) (by rw [hs]; decide) (by rw [hb]; decide) (by decide)
    unfold Oper.wp execOp
    simp only [ho, hx, hy, Sem.run_bind, hr, Result.andThen_ok, Sem.run_pure]
    exact hK _ _ (h _ _ ((Tch.refl _ _).alloc _) (Nat.le_refl _))
end
section
variable {B N : Nat} {w : World} {mv : Value} {F : List Nat → Option Nat}
theorem none_left {D : DataW Unit} {kl : Lit} {key : Value} {y : DataW Unit} (h5 : ∀ A, Ad A → ∀ z, D.atKey (keyL A) z = ptrZ (F A) z) (hF : ∀ A, Ad A → F A = none) (hk : keyOf Tryz.prog 23 key = some kl) (hat : ∀ z, D.atKey kl z = y) : False := by
  obtain ⟨l, h1, h2, rfl, rfl⟩ := keyOf_inv addrArr hk
  have e1 := (hat .nil).symm.trans (h5 l ⟨h1, h2⟩ .nil)
  have e2 := (hat (.lit (.int .i64 0))).symm.trans (h5 l ⟨h1, h2⟩ _)
  rw [hF l ⟨h1, h2⟩] at e1 e2
  have e3 : (DataW.nil : DataW Unit) = .lit (.int .i64 0) := e1.symm.trans e2
  cases e3
theorem none_range (hM : MapP B N w mv F) (hF : ∀ A, Ad A → F A = none) : ∃ w', (Instr.range 43 mv).run Tryz.prog w = .ok (.pointer (some ⟨w.heap.size, 0, none⟩)) w' ∧ Tch [] w w' ∧ (∀ ty, (Instr.next (.pointer (some ⟨w.heap.size, 0, none⟩)) false ty).run Tryz.prog w' = .ok (.tuple #[.bool false]) w') ∧ ∀ ty, (Builtin.len_ #[43] ty #[mv]).run Tryz.prog w = .ok (.int .i64 0) w := by
  rcases hM with ⟨rfl, h⟩ | ⟨r, n, D, rfl, h1, h2, h3, h4, h5⟩
  · exact ⟨_, run_range_nilMap w _ _ _ mapA_ty, (Tch.refl _ _).alloc _, fun ty => run_next_nilMap w ty 0 0 #[], fun ty => by simp [Builtin.len_, run_underlying mapA_ty, goInt]⟩
  · obtain ⟨w', g1, g2, g3, g4⟩ := h3.range addrKeyed mapA_ty
    refine ⟨w', g1, ⟨g3.os, g3.tape, g3.output, g3.size, fun k hk hn => g3.block k hk (by simp)⟩, ?_⟩
    have key : ∀ ty, Maps.size D = 0 ∧ (Instr.next (.pointer (some ⟨w.heap.size, 0, none⟩)) false ty).run Tryz.prog w' = .ok (.tuple #[.bool false]) w' := fun ty => by
      rcases g2.next addrKeyed ty with ⟨hc, _, hr⟩ | ⟨key, v, kl, y, w2, c2, hk, _, _, hat, _⟩
      · exact ⟨hc, hr⟩
      · exact (none_left h5 hF hk hat).elim
    refine ⟨fun ty => (key ty).2, fun ty => ?_⟩
    obtain ⟨es, clock, hb, F', hs, hD⟩ := h3
    have hsz := (key ty).1
    have hz : es.size = 0 := by
      rw [hD] at hsz
      simpa [Maps.size, length_sorted] using hsz
    simp [Builtin.len_, run_underlying mapA_ty, MapKept.run_getObj_map hb, goInt, Result.andThen, hz]
end
theorem x_rangeN {o : Oper} {a : Act} {w w' : World} {mv v : Value} (x : Operand) (ho : o.op = .range 43 x) (hx : a.eval x = mv) (hr : (Instr.range 43 mv).run Tryz.prog w = .ok v w') : (execOp a.eval o).run Tryz.prog w = .ok (.value v) w' := by
  unfold execOp
  simp [ho, hx, hr, Result.andThen]
theorem x_nextN {o : Oper} {a : Act} {w : World} {v u : Value} (x : Operand) (ho : o.op = .next x false) (hx : a.eval x = v) (hr : ∀ ty, (Instr.next v false ty).run Tryz.prog w = .ok u w) : (execOp a.eval o).run Tryz.prog w = .ok (.value u) w := by
  unfold execOp
  simp [ho, hx, hr, Result.andThen]
theorem x_lenMN {o : Oper} {a : Act} {w : World} {mv : Value} (x : Operand) (ho : o.op = .call { callee := .builtin .len, args := #[x], argTypes := #[43] }) (hx : a.eval x = mv) (hr : ∀ ty, (Builtin.len_ #[43] ty #[mv]).run Tryz.prog w = .ok (.int .i64 0) w) : (execOp a.eval o).run Tryz.prog w = .ok (.value (.int .i64 0)) w := by
  unfold execOp
  simp only [ho, resolve, invoke, builtin, Sem.run_bind, Sem.run_pure, Result.andThen_ok, List.map_toArray, List.map_cons, List.map_nil, hx, hr]
set_option maxHeartbeats 2000000 in
theorem insA_none (p : Option Addr) (cap : Nat) (fv : Value) (w : World) :
    Calls Tryz.prog 55 #[.slice p 0 cap, .int .i64 0, .int .i64 0, fv] w fun e w' => e = .returned (.tuple #[]) ∧ w' = w := by
  go_enter Tryz.func55, Tryz.ntmps55
  go_wp2
  refine wp_loop_rounds 1 ?_
  rw [rounds_succ]
  go_wp2
  go_end0
  exact ⟨rfl, rfl⟩
set_option maxHeartbeats 2000000 in
theorem pdqA_none (p : Option Addr) (cap : Nat) (lim : Int) (fv : Value) (w : World) :
    Calls Tryz.prog 40 #[.slice p 0 cap, .int .i64 0, .int .i64 0, .int .i64 lim, fv] w fun e w' => e = .returned (.tuple #[]) ∧ w' = w := by
  go_enter Tryz.func40, Tryz.ntmps40
  go_wp2
  refine wp_loop_rounds 1 ?_
  rw [rounds_succ]
  go_wp2_with (go_at_call 55; refine (insA_none _ _ _ _).mono ?_; rintro e w' ⟨rfl, rfl⟩)
  (try simp only [Exit.inBlock, Exit.then]); refine bodyPost_ret (results_none rfl _ _ _) rfl ?_
  exact ⟨rfl, rfl⟩
set_option maxHeartbeats 2000000 in
theorem sortA_none (p : Option Addr) (cap : Nat) (fv : Value) (w : World) :
    Calls Tryz.prog 21 #[.slice p 0 cap, fv] w fun e w' => e = .returned (.tuple #[]) ∧ w' = w := by
  have hl := fun W => len_any 0 W (by decide)
  rw [show ((0 : Nat) : Int) = 0 from rfl] at hl
  go_enter Tryz.func21, Tryz.ntmps21
  go_wp2_with (first
    | (go_at_call 41; refine (hl _).mono ?_; rintro e w' ⟨rfl, rfl⟩)
    | (go_at_call 40; refine (pdqA_none _ _ _ _ _).mono ?_; rintro e w' ⟨rfl, rfl⟩))
  go_end0
  exact ⟨rfl, rfl⟩
theorem accounts_none (B N : Nat) (w : World) (bS : Nat) (mv rv : Value) (k : Int) (F : List Nat → Option (Nat × Value)) (E : List Nat → Ac) (h : GsP B N w bS mv rv k F E) (hE : ∀ A, Ad A → E A = Ac.nil) :
    Calls Tryz.prog 7 #[.pointer (some ⟨bS, 0, none⟩)] w fun e w' => (∃ b, e = .returned (.slice (some ⟨b, 0, none⟩) 0 0)) ∧ Tch [] w w' := by
  have hF : ∀ A, Ad A → (fun A => (F A).map (·.1)) A = none := fun A hA => by
    show (F A).map (·.1) = none
    rw [(h.non A hA).2 (hE A hA)]; rfl
  obtain ⟨_, _, _, _, hlen⟩ := none_range h.map hF
  go_enter Tryz.func7, Tryz.ntmps7
  go_upto_region 0 with (fail)
  try simp only [Act.put, ppA, ppB, ppC]
  refine wp_region_lit ?_
  refine st_x (v := .slice none 0 0) rfl (x_val _ (.inr rfl) rfl) ?_; try simp only [Act.put, ppA, ppB, ppC]
  refine st_end14 ?_
  go_upto_region 1 with (fail)
  try simp only [Act.put, ppA, ppB, ppC]
  refine wp_region_lit ?_
  refine st_x (v := .pointer (some ⟨bS, 0, none⟩)) rfl (x_val _ (.inl rfl) rfl) ?_; try simp only [Act.put, ppA, ppB, ppC]
  refine st_x (v := .pointer (some ⟨bS, 0, none⟩)) rfl (x_nilck _ rfl rfl) ?_; try simp only [Act.put, ppA, ppB, ppC]
  refine st_x (v := .pointer (some ⟨bS, 0, none⟩)) rfl (x_fa _ _ _ rfl rfl (fa_s0 _ _)) ?_; try simp only [Act.put, ppA, ppB, ppC]
  refine st_x (v := mv) rfl (x_cell _ _ rfl rfl (h.blk.cell rfl) map_agg) ?_; try simp only [Act.put, ppA, ppB, ppC]
  refine st_x (v := .int .i64 0) rfl (x_lenMN _ rfl rfl hlen) ?_; try simp only [Act.put, ppA, ppB, ppC]
  refine st_makeA0 _ _ rfl rfl rfl rfl ?_
  intro w1 b1 hT1 hl1
  try simp only [Act.put, ppA, ppB, ppC]
  refine st_x (v := .slice (some ⟨b1, 0, none⟩) 0 0) rfl (x_val _ (.inr rfl) rfl) ?_; try simp only [Act.put, ppA, ppB, ppC]
  refine st_end14 ?_
  have h1 := h.call hT1
  obtain ⟨w2, hr2, hT2, hn2, _⟩ := none_range h1.map hF
  clear hlen
  go_upto_region 2 with (fail)
  try simp only [Act.put, ppA, ppB, ppC]
  refine wp_region_lit ?_
  refine st_x (v := .pointer (some ⟨bS, 0, none⟩)) rfl (x_val _ (.inl rfl) rfl) ?_; try simp only [Act.put, ppA, ppB, ppC]
  refine st_x (v := .pointer (some ⟨bS, 0, none⟩)) rfl (x_nilck _ rfl rfl) ?_; try simp only [Act.put, ppA, ppB, ppC]
  refine st_x (v := .pointer (some ⟨bS, 0, none⟩)) rfl (x_fa _ _ _ rfl rfl (fa_s0 _ _)) ?_; try simp only [Act.put, ppA, ppB, ppC]
  refine st_x (v := mv) rfl (x_cell _ _ rfl rfl (h1.blk.cell rfl) map_agg) ?_; try simp only [Act.put, ppA, ppB, ppC]
  refine st_to (v := .pointer (some ⟨w1.heap.size, 0, none⟩)) rfl (x_rangeN _ rfl rfl hr2) ?_; try simp only [Act.put, ppA, ppB, ppC]
  refine st_end14 ?_
  have hT := hT1.trans hT2
  generalize w1.heap.size = r at hn2 ⊢
  clear h h1 hr2 hT1 hT2
  go_wp2
  refine wp_loop_rounds 1 ?_
  rw [rounds_succ]
  go_upto_region 3 with (fail)
  try simp only [Act.put, ppA, ppB, ppC]
  refine wp_region_lit ?_
  refine st_x (v := .tuple #[.bool false]) rfl (x_nextN _ rfl rfl hn2) ?_; try simp only [Act.put, ppA, ppB, ppC]
  refine st_x (v := .bool false) rfl (x_ext _ _ rfl rfl rfl) ?_; try simp only [Act.put, ppA, ppB, ppC]
  refine st_end14 ?_
  go_upto_region 6 with (fail)
  try simp only [Act.put, ppA, ppB, ppC]
  refine wp_region_lit ?_
  refine st_x (v := .slice (some ⟨b1, 0, none⟩) 0 0) rfl (x_val _ (.inl rfl) rfl) ?_; try simp only [Act.put, ppA, ppB, ppC]
  refine st_callS (args := #[.slice (some ⟨b1, 0, none⟩) 0 0, .func (.func 22) #[] #[]]) rfl rfl (by simp only [List.map_toArray, List.map_cons, List.map_nil]; rfl) Tryz.call21 (sortA_none _ _ _ _) ?_
  rintro e w3 ⟨rfl, rfl⟩
  refine ⟨_, rfl, ?_⟩
  try simp only [Act.put, ppA, ppB, ppC]
  refine st_end14 ?_
  go_upto_region 7 with (fail)
  try simp only [Act.put, ppA, ppB, ppC]
  refine wp_region_lit ?_
  refine st_x (v := .slice (some ⟨b1, 0, none⟩) 0 0) rfl (x_val _ (.inl rfl) rfl) ?_; try simp only [Act.put, ppA, ppB, ppC]
  refine st_x (v := .slice (some ⟨b1, 0, none⟩) 0 0) rfl (x_val _ (.inr rfl) rfl) ?_; try simp only [Act.put, ppA, ppB, ppC]
  refine st_end14 ?_
  go_wp2
  go_ret
  exact ⟨⟨_, rfl⟩, hT⟩
end
end Go.Proofs.YtopfmaoeebgjmaaGreatDoor
