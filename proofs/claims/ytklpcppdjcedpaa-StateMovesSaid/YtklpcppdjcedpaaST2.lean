/- States: what a state is in memory; open, empty. -/
import Derived.Test.YtklpcppdjcedpaaST1
namespace Go.Proofs.Ytklpcppdjcedpaa
open Go.RowKit Go.WideMaps Go.ChangeMaps Go.MapKept
set_option linter.unusedVariables false
set_option linter.unusedSimpArgs false
set_option maxRecDepth 100000

/-- What lay in w lies as it lay, but for the blocks of which S holds. -/
structure PT (S : Nat → Prop) (w w' : World) : Prop where
  os : w'.os = w.os
  tape : w'.tape = w.tape
  output : w'.output = w.output
  size : w.heap.size ≤ w'.heap.size
  block : ∀ k, k < w.heap.size → ¬ S k → w'.heap[k]? = w.heap[k]?
theorem PT.refl (S : Nat → Prop) (w : World) : PT S w w := ⟨rfl, rfl, rfl, Nat.le_refl _, fun _ _ _ => rfl⟩
theorem PT.of_tch {S : Nat → Prop} {bs : List Nat} {w w' : World} (h : Tch bs w w') (hS : ∀ k ∈ bs, S k ∨ w.heap.size ≤ k) : PT S w w' :=
  ⟨h.os, h.tape, h.output, h.size, fun k hk hn => h.block k hk (fun hm => (hS k hm).elim hn (fun h => by omega))⟩
theorem PT.nil {S : Nat → Prop} {w w' : World} (h : Tch [] w w') : PT S w w' := PT.of_tch h (by simp)
theorem PT.trans {S : Nat → Prop} {a b c : World} (h : PT S a b) (k : PT S b c) : PT S a c :=
  ⟨k.os.trans h.os, k.tape.trans h.tape, k.output.trans h.output, Nat.le_trans h.size k.size, fun i hi hn => (k.block i (Nat.lt_of_lt_of_le hi h.size) hn).trans (h.block i hi hn)⟩
theorem PT.mono {S T : Nat → Prop} {a b : World} (h : PT S a b) (hS : ∀ k, k < a.heap.size → S k → T k) : PT T a b :=
  ⟨h.os, h.tape, h.output, h.size, fun i hi hn => h.block i hi (fun hs => hn (hS i hi hs))⟩
theorem PT.blk {S : Nat → Prop} {w w' : World} {b : Nat} {t : TypeId} {c : Array Value} (h : PT S w w') (hB : Blk w b t c) (hb : ¬ S b) : Blk w' b t c := (h.block b hB.lt hb).trans hB
/-- What a call turns of its own state is nothing to whoever began before the state was laid down. -/
theorem PT.tch {S : Nat → Prop} {w0 w w' : World} (hT : Tch [] w0 w) (h : PT S w w') (hS : ∀ k, S k → w0.heap.size ≤ k) : Tch [] w0 w' :=
  ⟨h.os.trans hT.os, h.tape.trans hT.tape, h.output.trans hT.output, Nat.le_trans hT.size h.size, fun k hk _ => (h.block k (Nat.lt_of_lt_of_le hk hT.size) (fun hs => by have := hS k hs; omega)).trans (hT.block k hk (by simp))⟩

/-- What each address has: a Nonce and a Balance. -/
def upE (E : List Nat → Nat × Nat) (A : List Nat) (v : Nat × Nat) : List Nat → Nat × Nat := fun X => if X = A then v else E X
/-- A state in block bS. -/
structure StP (B N : Nat) (w : World) (bS : Nat) (mv rv : Value) (k : Int) (F : List Nat → Option Nat) (E : List Nat → Nat × Nat) : Prop where
  blk : Blk w bS 48 #[mv, rv, .int .i64 k]
  base : B ≤ bS
  map : MapP B N w mv F
  acc : ∀ A b, Ad A → F A = some b → Blk w b 69 (acA (E A).1 (E A).2) ∧ B ≤ b ∧ b ≠ bS
  non : ∀ A, Ad A → F A = none → E A = (0, 0)
  inj : ∀ A X b, Ad A → Ad X → F A = some b → F X = some b → A = X
  ok : ∀ A, Ad A → (E A).1 < 9223372036854775808 ∧ (E A).2 < M256
/-- The blocks of a state. -/
def foot (bS : Nat) (mv : Value) (F : List Nat → Option Nat) (j : Nat) : Prop := j = bS ∨ mv = .map (some j) ∨ ∃ A, Ad A ∧ F A = some j
section
variable {B N : Nat} {w w' : World} {bS : Nat} {mv rv : Value} {k : Int} {F : List Nat → Option Nat} {E : List Nat → Nat × Nat}
theorem StP.lt (h : StP B N w bS mv rv k F E) {j : Nat} (hj : foot bS mv F j) : B ≤ j ∧ j < w.heap.size := by
  rcases hj with rfl | rfl | ⟨A, hA, hF⟩
  · exact ⟨h.base, h.blk.lt⟩
  · exact ⟨h.map.lt.2, h.map.lt.1⟩
  · have := h.acc A j hA hF
    exact ⟨this.2.1, this.1.lt⟩
theorem StP.same (h : StP B N w bS mv rv k F E) (hs : ∀ j, foot bS mv F j → w'.heap[j]? = w.heap[j]?) : StP B N w' bS mv rv k F E :=
  ⟨(hs bS (.inl rfl)).trans h.blk, h.base, h.map.far (fun r hr => hs r (.inr (.inl hr))), fun A b hA hF => ⟨(hs b (.inr (.inr ⟨A, hA, hF⟩))).trans (h.acc A b hA hF).1, (h.acc A b hA hF).2⟩, h.non, h.inj, h.ok⟩
theorem StP.far {S : Nat → Prop} (h : StP B N w bS mv rv k F E) (hT : PT S w w') (hS : ∀ j, foot bS mv F j → ¬ S j) : StP B N w' bS mv rv k F E :=
  h.same fun j hj => hT.block j (h.lt hj).2 (hS j hj)
theorem StP.call (h : StP B N w bS mv rv k F E) (hT : Tch [] w w') : StP B N w' bS mv rv k F E := h.same fun j hj => hT.block j (h.lt hj).2 (by simp)
theorem StP.more (h : StP B N w bS mv rv k F E) {M : Nat} (hM : N ≤ M) : StP B M w bS mv rv k F E :=
  ⟨h.blk, h.base, h.map.imp id (fun ⟨r, n, D, h1, h2, h3, h4⟩ => ⟨r, n, D, h1, h2, Nat.le_trans h3 hM, h4⟩), h.acc, h.non, h.inj, h.ok⟩
end
section
variable {B N : Nat} {w : World} {mv : Value} {F : List Nat → Option Nat} {A : List Nat} {o : Oper} {a : Act} {Q : Exit → Act → World → Prop} {l0 : List Oper} {n : Nat} {K : Act → World → Prop}
theorem held_del (hM : MapP B N w mv F) (hA : Ad A) {mo xo : Operand} (ho' : l0[n]? = some o) (hw : Region.wanted o (yielded l0.toArray a.tmps) = true) (ho : o.op = .call { callee := .builtin .delete, args := #[mo, xo], argTypes := #[45, 23] }) (hm : a.eval mo = mv) (hx : a.eval xo = .agg (av A))
    (h : ∀ w', MapP B N w' mv (upF F A none) → PT (fun j => mv = .map (some j)) w w' → K (a.put o.dst (.tuple #[])) w') : wpOp Try.prog l0.toArray Q n K a w := by
  obtain ⟨w', hr, g1, g2, g3⟩ := r_mapDel hM hA mo xo ho hm hx
  refine held_run ho' hw hr (h w' g1 ?_)
  rcases hM with ⟨rfl, _⟩ | ⟨r, _, _, rfl, _⟩
  · rw [g3 rfl]; exact PT.refl _ _
  · exact PT.of_tch (g2 r rfl) (fun k hk => by rw [List.mem_singleton.1 hk]; exact .inl rfl)
theorem held_put {r b : Nat} (hM : MapP B N w (.map (some r)) F) (hN : N < maxLen) (hA : Ad A) {mo xo vo : Operand} (ho' : l0[n]? = some o) (hw : Region.wanted o (yielded l0.toArray a.tmps) = true) (ho : o.op = .mapUpdate 45 mo xo vo) (hm : a.eval mo = .map (some r)) (hx : a.eval xo = .agg (av A)) (hv : a.eval vo = .pointer (some ⟨b, 0, none⟩))
    (h : ∀ w', MapP B (N + 1) w' (.map (some r)) (upF F A (some b)) → PT (fun j => (.map (some r) : Value) = .map (some j)) w w' → K (a.put o.dst undef) w') : wpOp Try.prog l0.toArray Q n K a w := by
  obtain ⟨w', hr, g1, g2⟩ := r_mapPut hM hN hA mo xo vo ho hm hx hv
  exact held_skip ho' hw hr (h w' g1 (PT.of_tch g2 (fun k hk => by rw [List.mem_singleton.1 hk]; exact .inl rfl)))
end
/-- The account of an address is opened. -/
theorem open_any (B N : Nat) (w : World) (bS : Nat) (mv rv : Value) (k : Int) (F : List Nat → Option Nat) (E : List Nat → Nat × Nat) (A : List Nat) (h : StP B N w bS mv rv k F E) (hA : Ad A) :
    Calls Try.prog 56 #[.pointer (some ⟨bS, 0, none⟩), .agg (av A)] w fun e w' =>
      ∃ b, e = .returned (.pointer (some ⟨b, 0, none⟩)) ∧ Tch [] w w' ∧ Blk w' b 69 (acA (E A).1 (E A).2) ∧ (F A = some b ∨ F A = none ∧ w.heap.size ≤ b) := by
  have H := Lib.hid h
  have HA := Lib.hid hA
  have HB := h.blk
  have hS := St.start w
  clear h hA
  go_enter Try.func56, Try.ntmps56
  go_upto_region 1 with (refine st_box hS rfl 23 _ rfl rfl ?_; clear hS; intro w1 b1 hS)
  try simp only [Act.put, List.setIfInBounds_toArray, List.set_cons_zero, List.set_cons_succ]
  have hT1 := hS.frame
  have hB1 := hS.get .head
  clear hS
  generalize hcv : (#[mv, rv, .int .i64 k] : Array Value) = cv at HB
  refine wp_region_held_drew (S := fun w' => Tch [] w1 w') (by kernel_rfl) ((Tch.refl _ _).drew) (fun hC => ?_)
  generalize World.drew w1 = u0 at hC ⊢
  have hS1 : ∀ w', Tch [] w1 w' → StP B N w' bS mv rv k F E := fun w' h => H.out.call (hT1.trans h)
  refine held_in (v := .pointer (some ⟨bS, 0, none⟩)) 0 rfl (by kernel_rfl) (by kernel_rfl) (by kernel_rfl) (fun _ _ _ h => h) hC rfl (fun w' hw' => x_val _ (.inl rfl) rfl) ?_
  try simp only [Act.put, List.setIfInBounds_toArray, List.set_cons_zero, List.set_cons_succ]
  refine held_in (v := .pointer (some ⟨bS, 0, none⟩)) 1 rfl (by kernel_rfl) (by kernel_rfl) (by kernel_rfl) (fun _ _ _ h => h) hC rfl (fun w' hw' => x_nilck _ rfl rfl) ?_
  try simp only [Act.put, List.setIfInBounds_toArray, List.set_cons_zero, List.set_cons_succ]
  refine held_in (v := .pointer (some ⟨bS, 0, none⟩)) 2 rfl (by kernel_rfl) (by kernel_rfl) (by kernel_rfl) (fun _ _ _ h => h) hC rfl (fun w' hw' => x_fa _ _ _ rfl rfl (fa_s0 _ _)) ?_
  try simp only [Act.put, List.setIfInBounds_toArray, List.set_cons_zero, List.set_cons_succ]
  refine held_in (v := mv) 3 rfl (by kernel_rfl) (by kernel_rfl) (by kernel_rfl) (fun _ _ _ h => h) hC rfl (fun w' hw' => x_cell _ _ rfl rfl ((hS1 w' hw').blk.cell rfl) map_agg) ?_
  try simp only [Act.put, List.setIfInBounds_toArray, List.set_cons_zero, List.set_cons_succ]
  refine held_in (v := .agg (av A)) 4 rfl (by kernel_rfl) (by kernel_rfl) (by kernel_rfl) (fun _ _ _ h => h) hC rfl (fun w' hw' => x_ld _ rfl rfl (hw'.blk hB1 (by simp)) addr_tyY rfl (by rw [arrV_size]; exact addr_sizeY)) ?_
  try simp only [Act.put, List.setIfInBounds_toArray, List.set_cons_zero, List.set_cons_succ]
  refine held_in (v := ptrV (F A)) 5 rfl (by kernel_rfl) (by kernel_rfl) (by kernel_rfl) (fun _ _ _ h => h) hC rfl (fun w' hw' => x_look (hS1 w' hw').map HA.out _ _ rfl rfl rfl) ?_
  try simp only [Act.put, List.setIfInBounds_toArray, List.set_cons_zero, List.set_cons_succ]
  refine held_in (v := ptrV (F A)) 6 rfl (by kernel_rfl) (by kernel_rfl) (by kernel_rfl) (fun _ _ _ h => h) hC rfl (fun w' hw' => x_val _ (.inr rfl) rfl) ?_
  try simp only [Act.put, List.setIfInBounds_toArray, List.set_cons_zero, List.set_cons_succ]
  refine wpAnyH_done (by kernel_rfl) ?_ _
  have hSu := hS1 u0 hC
  have hTu := hT1.trans hC
  clear hB1 hS1 hC hcv HB
  cases hF : F A with
  | some b =>
    have hb := (hSu.acc A b HA.out hF).1
    have HF := Lib.hid hF
    clear hF
    simp only [ptrV]
    go_upto_region 3 with (refine st_x (v := .bool true) rfl (x_bin _ _ _ _ rfl rfl rfl rfl (neA_some _ _)) ?_)
    go_wp2
    go_ret
    exact ⟨b, rfl, hTu, hb, .inl HF.out⟩
  | none =>
    have hE := hSu.non A HA.out hF
    have HF := Lib.hid hF
    clear hF
    simp only [ptrV]
    have hS := (St.start w).call hTu
    go_upto_region 4 with (refine st_x (v := .bool false) rfl (x_bin _ _ _ _ rfl rfl rfl rfl (neA_none _)) ?_)
    go_wp2_with (first
      | (refine st_x (v := .agg (acA 0 0)) rfl (x_bldA rfl) ?_)
      | (refine st_box hS rfl 69 _ rfl rfl ?_; clear hS; intro w2 b2 hS))
    go_ret
    rw [hE]
    exact ⟨b2, rfl, hS.frame, hS.get .head, .inr ⟨HF.out, by
      have := (hS.own .head).elim id (fun h => by simp at h)
      exact this⟩⟩
end Go.Proofs.Ytklpcppdjcedpaa
