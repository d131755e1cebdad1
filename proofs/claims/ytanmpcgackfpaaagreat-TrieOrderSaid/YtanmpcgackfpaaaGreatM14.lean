/- Reading: what bytes are as an item, as plain mathematics; that it undoes the writing, and the writing it. -/
import Derived.Test.YtanmpcgackfpaaaGreatM01
import Derived.Test.YtanmpcgackfpaaaGreatM10
import Derived.Test.YtanmpcgackfpaaaGreatM12
import Derived.Test.YtanmpcgackfpaaaGreatM13
import Derived.Deep.RegionHeld3
set_option linter.unusedVariables false
set_option linter.unusedSimpArgs false
namespace Go.Proofs.YtanmpcgackfpaaaGreat
section
open Go.RowKit
abbrev Res (α : Type) := Except Nat α
def decL (f : List Nat → Res (It × List Nat)) : Nat → List Nat → Res (List It)
  | 0, l => if l = [] then .ok [] else .error 4
  | n + 1, l => if l = [] then .ok [] else match f l with
    | .error e => .error e
    | .ok (t, r) => match decL f n r with
      | .error e => .error e
      | .ok ts => .ok (t :: ts)
def dec : Nat → List Nat → Res (It × List Nat)
  | j, l => if 192 ≤ l.getD 0 0 ∧ j = 0 then .error 3 else match spl l with
    | none => .error 4
    | some (h, n) => if l.getD 0 0 < 192 then .ok (.str ((l.drop h).take n), l.drop (h + n)) else match j with
      | 0 => .error 3
      | j + 1 => match decL (dec j) n ((l.drop h).take n) with
        | .error e => .error e
        | .ok ts => .ok (.lst ts, l.drop (h + n))
theorem val_be (n : Nat) : val (be n) = n := by
  induction n using Nat.strongRecOn with
  | _ n ih =>
    rcases Nat.eq_zero_or_pos n with h | h
    · subst h; rw [be_zero]; rfl
    · rw [be_pos h, val_snoc, ih _ (by omega)]; omega
theorem be_head {n : Nat} (h : 0 < n) : (be n).getD 0 0 ≠ 0 := by
  induction n using Nat.strongRecOn with
  | _ n ih =>
    rw [be_pos h]
    rcases Nat.eq_zero_or_pos (n / 256) with h1 | h1
    · rw [h1, be_zero]; simp; omega
    · have := ih (n / 256) (by omega) h1
      cases hb : be (n / 256) with
      | nil => rw [hb] at this; simp at this
      | cons a s => rw [hb] at this; simpa using this
theorem encs_cons (x : It) (r : List It) : encs (x :: r) = enc x ++ encs r := by rw [encs]
theorem dec_eq (j : Nat) (l : List Nat) : dec j l = if 192 ≤ l.getD 0 0 ∧ j = 0 then .error 3 else match spl l with
    | none => .error 4
    | some (h, n) => if l.getD 0 0 < 192 then .ok (.str ((l.drop h).take n), l.drop (h + n)) else match j with
      | 0 => .error 3
      | j + 1 => match decL (dec j) n ((l.drop h).take n) with
        | .error e => .error e
        | .ok ts => .ok (.lst ts, l.drop (h + n)) := by cases j <;> rw [dec]
theorem spl_hd {base n : Nat} {body r : List Nat} (hbase : base = 128 ∨ base = 192) (hn : body.length = n) (hz : lsz n ≤ 4) (hno : base = 128 → single body = false) :
    spl (hd base n ++ (body ++ r)) = some ((hd base n).length, n) ∧ base ≤ (hd base n ++ (body ++ r)).getD 0 0 ∧ (hd base n ++ (body ++ r)).getD 0 0 < base + 64 := by
  by_cases h : n ≤ 55
  · have e : hd base n = [base + n] := by unfold hd; rw [if_pos h]
    rw [e]
    refine ⟨?_, by simp, by simp; omega⟩
    have em : (base + n) % 64 = n := by omega
    rw [List.singleton_append, spl_cons, if_neg (by omega), em, if_pos h]
    unfold chk
    rw [if_neg (by simp; omega)]
    by_cases h1 : base + n = 129
    · have hb : base = 128 := by omega
      have hn1 : n = 1 := by omega
      have hs := hno hb
      subst hb
      rw [if_neg]
      · rfl
      · rintro ⟨_, h2⟩
        match body, hn, hs with
        | [x], _, hs => simp [single] at hs; simp at h2; omega
        | [], hn, _ => simp at hn; omega
        | _ :: _ :: _, hn, _ => simp at hn; omega
    · rw [if_neg (fun h2 => h1 h2.1)]; rfl
  · have e : hd base n = (base + 55 + lsz n) :: be n := by unfold hd; rw [if_neg h]
    have hl1 : 0 < lsz n := by unfold lsz; rw [be_pos (by omega)]; simp
    rw [e]
    refine ⟨?_, by simp; omega, by simp; omega⟩
    have em : (base + 55 + lsz n) % 64 - 55 = lsz n := by omega
    have em2 : ¬ (base + 55 + lsz n) % 64 ≤ 55 := by omega
    have hbl : (be n).length = lsz n := rfl
    have htake : (be n ++ (body ++ r)).take (lsz n) = be n := by rw [← hbl, List.take_left]
    have hok : lenOk (be n ++ (body ++ r)) (lsz n) = true := by
      unfold lenOk
      rw [htake, val_be]
      have h0 : (be n ++ (body ++ r)).getD 0 0 ≠ 0 := by
        have := be_head (n := n) (by omega)
        cases hb : be n with
        | nil => rw [hb] at this; simp at this
        | cons a s => rw [hb] at this; simpa using this
      simp only [Bool.and_eq_true, decide_eq_true_eq, bne_iff_ne]
      exact ⟨⟨⟨by simp [hbl], h0⟩, hz⟩, by omega⟩
    rw [List.cons_append, spl_cons, if_neg (by omega), if_neg em2, em, if_pos hok, htake, val_be]
    unfold chk
    rw [if_neg (by simp [hbl]; omega), if_neg (by omega)]
    simp [hbl]; omega
theorem single_cons {l : List Nat} (h : single l = true) : ∃ x, l = [x] ∧ x < 128 := by
  match l, h with
  | [x], h => exact ⟨x, rfl, by simpa [single] using h⟩
theorem lsz_mono {n m : Nat} (h : n ≤ m) : lsz n ≤ lsz m := by
  induction m using Nat.strongRecOn generalizing n with
  | _ m ih =>
    rcases Nat.eq_zero_or_pos n with h0 | h0
    · subst h0; unfold lsz; rw [be_zero]; simp
    · have h1 := ih (m / 256) (by omega) (n := n / 256) (Nat.div_le_div_right h)
      unfold lsz at *
      rw [be_pos h0, be_pos (show 0 < m by omega), List.length_append, List.length_append]
      simp; omega
theorem decL_go {f : List Nat → Res (It × List Nat)} (j : Nat) (hf : ∀ t r, (enc t).length ≤ 16777216 → f (enc t ++ r) = if dep t ≤ j then .ok (t, r) else .error 3) : ∀ (ts : List It) (n : Nat), (encs ts).length ≤ n → (encs ts).length ≤ 16777216 → decL f n (encs ts) = if deps ts ≤ j then .ok ts else .error 3
  | [], n, _, _ => by
    rw [show encs [] = [] by rw [encs], show deps [] = 0 by rw [deps], if_pos (Nat.zero_le _)]
    cases n <;> (unfold decL; rw [if_pos rfl])
  | t :: ts, 0, h, _ => by
    rw [encs_cons, List.length_append] at h
    have := enc_pos t
    omega
  | t :: ts, n + 1, h, h16 => by
    rw [encs_cons, List.length_append] at h h16
    have hp := enc_pos t
    unfold decL
    rw [encs_cons, if_neg (by intro e; have := congrArg List.length e; rw [List.length_append, List.length_nil] at this; omega), hf t (encs ts) (by omega), show deps (t :: ts) = max (dep t) (deps ts) by rw [deps]]
    by_cases h1 : dep t ≤ j
    · rw [if_pos h1]
      simp only []
      rw [decL_go j hf ts n (by omega) (by omega)]
      by_cases h2 : deps ts ≤ j
      · rw [if_pos h2, if_pos (by omega)]
      · rw [if_neg h2, if_neg (by omega)]
    · rw [if_neg h1, if_neg (by omega)]
theorem enc_dec : ∀ (j : Nat) (t : It) (r : List Nat), (enc t).length ≤ 16777216 → dec j (enc t ++ r) = if dep t ≤ j then .ok (t, r) else .error 3
  | j, .str l, r, h => by
    rw [show dep (.str l) = 0 by rw [dep], if_pos (Nat.zero_le _), dec_eq, qf4]
    rw [qf4] at h
    unfold encS at h ⊢
    by_cases hs : single l = true
    · obtain ⟨x, rfl, hx⟩ := single_cons hs
      rw [if_pos hs]
      have e : spl ([x] ++ r) = some (0, 1) := by rw [List.singleton_append, spl_cons, if_pos hx]
      rw [e, if_neg (by simp; omega)]
      simp only []
      rw [if_pos (by simp; omega)]; simp
    · rw [if_neg hs] at h ⊢
      rw [List.length_append] at h
      have hz : lsz l.length ≤ 4 := Nat.le_trans (lsz_mono (show l.length ≤ 16777216 by omega)) (by unfold lsz; decide +kernel)
      obtain ⟨h1, h2, h3⟩ := spl_hd (base := 128) (r := r) (.inl rfl) rfl hz (fun _ => by simpa using hs)
      rw [List.append_assoc, h1, if_neg (by omega)]
      simp only []
      rw [if_pos (by omega)]
      simp [← List.drop_drop]
  | j, .lst ts, r, h => by
    rw [show dep (.lst ts) = deps ts + 1 by rw [dep], dec_eq, qi5]
    rw [qi5, List.length_append] at h
    have hz : lsz (encs ts).length ≤ 4 := Nat.le_trans (lsz_mono (show (encs ts).length ≤ 16777216 by omega)) (by unfold lsz; decide +kernel)
    obtain ⟨h1, h2, h3⟩ := spl_hd (base := 192) (r := r) (.inr rfl) rfl hz (fun h => by omega)
    rw [List.append_assoc, h1]
    cases j with
    | zero => rw [if_pos ⟨h2, rfl⟩, if_neg (by omega)]
    | succ j =>
      rw [if_neg (by omega)]
      simp only []
      rw [if_neg (by omega)]
      have hd1 : (hd 192 (encs ts).length ++ (encs ts ++ r)).drop (hd 192 (encs ts).length).length = encs ts ++ r := by simp
      have hd2 : (hd 192 (encs ts).length ++ (encs ts ++ r)).drop ((hd 192 (encs ts).length).length + (encs ts).length) = r := by rw [← List.drop_drop, hd1]; simp
      rw [hd1, hd2, show (encs ts ++ r).take (encs ts).length = encs ts by simp, decL_go j (fun t r => enc_dec j t r) ts _ (Nat.le_refl _) (by omega)]
      by_cases hj : deps ts ≤ j
      · rw [if_pos hj, if_pos (by omega)]
      · rw [if_neg hj, if_neg (by omega)]
def rd (l : List Nat) : Res It := if 16777216 < l.length then .error 3 else match dec 32 l with
  | .error e => .error e
  | .ok (t, r) => if r = [] then .ok t else .error 4
def app (ts : List It) : Res (List It) → Res (List It)
  | .error e => .error e
  | .ok us => .ok (ts ++ us)
end
section
open Go.RowKit
set_option maxRecDepth 100000
section
variable {o : Oper} {a : Act} {ops : Array Oper} {rest : List Oper} {C : World → Prop} {Q : Act → Prop}
theorem k_sl {ty : TypeId} {x : Operand} {lo hi mx : Option Operand} {v r : Value} {l h m : Option Value} (hw : Region.wanted o (yielded ops a.tmps) = true) (ho : o.op = .slice ty x lo hi mx) (hx : a.eval x = v) (hl : lo.map a.eval = l) (hh : hi.map a.eval = h) (hmx : mx.map a.eval = m)
    (hr : ∀ w, (Instr.sliceAt ty v l h m).run Tryz.prog w = .ok r w) (hk : KQ ops C Q rest (a.put o.dst r)) : KQ ops C Q (o :: rest) a :=
  qd6 hw (fun w => by
    unfold execOp
    simp only [ho, hx, hl, hh, hmx, Sem.run_bind, hr, Result.andThen_ok, Sem.run_pure]) hk
end
theorem k_gtr {o : Oper} {a : Act} {ops : Array Oper} {rest : List Oper} {C : World → Prop} {Q : Act → Prop} {t : Bool} {m n : Int} (hw : Region.wanted o (yielded ops a.tmps) = true) (xo yo : Operand) (yt : TypeId) (ho : o.op = .binOp .gtr 3 xo yo yt)
    (hxe : a.eval xo = .int .i64 m) (hye : a.eval yo = .int .i64 n) (hxy : decide (n < m) = t) (h : KQ ops C Q rest (a.put o.dst (.bool t))) : KQ ops C Q (o :: rest) a :=
  qd6 hw (fun w => by unfold execOp; simp only [ho, hxe, hye]; show Sem.run _ _ w = _; simp [eqGuard, binOp, Op.intCmp, hxy]) h
theorem deep_lt {d : Nat} (h : d ≤ 32) : deepN 32 d = d := by unfold deepN; rw [if_pos h]
end
section
open Go.RowKit
section
variable {ops : Array Oper} {md : Region.Mode} {Q : Exit → Act → World → Prop} {S : World → Prop} {a : Act} {w : World} {fuel : Nat} {listed : Array Bool}
theorem qa6 {P : Program} (k : Nat) (hr : Region.ready md ops listed = [k]) (h : wpOp P ops Q k (fun a' w' => S w' ∧ wpAnyH P md ops Q S fuel (listed.setIfInBounds k true) a' w') a w) : wpAnyH P md ops Q S (fuel + 1) listed a w :=
  wpAnyH_all hr (by simp) (fun i hi => by
    have : i = k := by simpa using hi
    subst this; exact h)
theorem qk6 {P : Program} {l0 : List Oper} {n : Nat} {o : Oper} {K : Act → World → Prop} {f : FuncId} {ts : Array TypeId} {x1 : Operand} {v1 : Value} {R : Ending → World → Prop} (ho : l0[n]? = some o) (hw : Region.wanted o (yielded l0.toArray a.tmps) = true)
    (hop : o.op = .call { callee := .value (.func f), args := #[x1], argTypes := ts }) (h1 : a.eval x1 = v1) (hf : ∀ args w, (callFunc f args).run P w = .ok (.enter f args) w)
    (hc : Calls P f #[v1] w R) (h : ∀ e w', R e w' → ∃ v, e = .returned v ∧ K (a.put o.dst v) w') : wpOp P l0.toArray Q n K a w :=
  o_callR (by rw [List.getElem?_toArray]; exact ho) hw (by unfold execOp; simp [hop, resolve, invoke, h1, hf, show a.eval (.func f) = .func (.func f) #[] #[] from rfl, Deferred.ofValue]) hc h
end
end
section
open Go.RowKit
theorem byteN_ty : Tryz.prog.underlying 5 = some (.int .u8) := by kernel_rfl
def bytesOfN (n : Nat) (f : Nat → Nat) : List UInt8 := (List.range n).map fun i => UInt8.ofNat (f i)
theorem bc_bytesN (n : Nat) (f : Nat → Nat) (h : ∀ i, i < n → f i < 256) : bc n f = ((bytesOfN n f).map Extern.Stop.cell).toArray := by
  unfold bytesOfN
  rw [List.map_map]
  show ((List.range n).map fun i => Value.int .u8 ((f i : Nat) : Int)).toArray = _
  congr 1
  apply List.map_congr_left
  intro i hi
  simp only [Function.comp, Extern.Stop.cell]
  have h := h i (List.mem_range.1 hi)
  congr 1
  simp [Nat.mod_eq_of_lt h]
theorem run_eql_hash (l : List Nat) (w : World) : (binOp .eql 32 (.agg (wf (hashN l))) (.agg (wf (hashN l)))).run Tryz.prog w = .ok (.bool true) w := by
  have := run_eql_bytes (P := Tryz.prog) w 32 5 32 qc7 byteN_ty (fun w => sizeOf_u8 w) (bytesOfN 32 (hashN l)) (bytesOfN 32 (hashN l)) (by simp [bytesOfN]) (by simp [bytesOfN])
  rw [← bc_bytesN 32 (hashN l) (fun i _ => qj2 _ _), beq_self_eq_true, bc_wf] at this
  exact this
section
variable {a : Act} {w : World} {o : Oper}
theorem x_hash {l : List Nat} (xo yo : Operand) (yt : TypeId) (ho : o.op = .binOp .eql 32 xo yo yt) (hxe : a.eval xo = .agg (wf (hashN l))) (hye : a.eval yo = .agg (wf (hashN l))) : (execOp a.eval o).run Tryz.prog w = .ok (.value (.bool true)) w := by
  have := run_eql_hash l w
  unfold execOp
  simp only [ho, hxe, hye]
  show Sem.run _ _ w = _
  simp [eqGuard, this]
end
section
variable {o : Oper} {a : Act} {ops : Array Oper} {rest : List Oper} {C : World → Prop} {Q : Act → Prop}
end
section
variable {ops : Array Oper} {md : Region.Mode} {Q : Exit → Act → World → Prop} {S : World → Prop} {a : Act} {w : World} {fuel : Nat} {listed : Array Bool} {o : Oper}
theorem qa0 {l0 : List Oper} {v : Value} (i : Nat) (hi : l0[i]? = some o) (hs : Region.noSelect l0.toArray = true) (hf : Region.free md l0.toArray listed i = true) (hr : (Region.ready md l0.toArray listed).contains i = true) (hQ : ∀ c a w, Q (.panic c) (a.put o.dst v) w → Q (.panic c) a w) (hS : S w)
    (hw : Region.wanted o (yielded l0.toArray a.tmps) = true) (hx : ∀ w, S w → (execOp a.eval o).run Tryz.prog w = .ok (.value v) w)
    (h : wpAnyH Tryz.prog md l0.toArray Q S fuel (listed.setIfInBounds i true) (a.put o.dst v) w) : wpAnyH Tryz.prog md l0.toArray Q S (fuel + 1) listed a w :=
  wpAnyH_take (by rw [List.getElem?_toArray]; exact hi) hs hf hr hQ (.inl ⟨hw, fun w hS => by rw [hx w hS]⟩) hS h
theorem x_load {b n n1 : Nat} {t e1 : TypeId} {c : Array Value} (ty : TypeId) (x : Operand) (ho : o.op = .load ty x) (hx : a.eval x = .pointer (some ⟨b, 0, none⟩)) (hB : Blk w b t c)
    (hu : Tryz.prog.underlying ty = some (.array n1 e1)) (hi : (Tryz.prog.info? ty).map (·.size) = some n) (hn : c.size = n) : (execOp a.eval o).run Tryz.prog w = .ok (.value (.agg c)) w := by
  have hl := hB.load (P := Tryz.prog) hu rfl hi hn
  unfold execOp
  simp only [ho, hx, Sem.run_bind, hl, Result.andThen_ok, Sem.run_pure]
end
end
end Go.Proofs.YtanmpcgackfpaaaGreat
