/- States: Move; New of nothing. -/
import Derived.Test.YtklpcppdjcedpaaST6
namespace Go.Proofs.Ytklpcppdjcedpaa
open Go.RowKit Go.WideMaps Go.ChangeMaps Go.MapKept
set_option linter.unusedVariables false
set_option linter.unusedSimpArgs false
set_option maxRecDepth 100000
set_option maxHeartbeats 1000000
theorem equal_av (d : Nat) {A X : List Nat} (hA : Ad A) (hX : Ad X) (w : World) : (Op.equalIn (d + 2) 23 (.agg (av A)) (.agg (av X))).run Try.prog w = .ok (decide (A = X)) w := by
  have hl : ∀ {L : List Nat}, Ad L → ∀ i, i < 20 → L.getD i 0 < 256 := fun {L} h i _ => by
    rw [List.getD_eq_getElem?_getD]
    cases hq : L[i]? with
    | none => decide
    | some y => exact h.2 y (List.mem_of_getElem? hq)
  have h := run_equalIn_bytes (P := Try.prog) w d 23 5 20 addr_tyY byte_ty (fun w => sizeOf_u8 w) (bytesOfI 20 (fun i => A.getD i 0)) (bytesOfI 20 (fun i => X.getD i 0)) (by simp [bytesOfI]) (by simp [bytesOfI])
  rw [← bc_bytesI 20 _ (hl hA), ← bc_bytesI 20 _ (hl hX)] at h
  refine h.trans ?_
  congr 1
  rw [Bool.eq_iff_iff, beq_iff_eq, decide_eq_true_eq]
  refine ⟨fun e => arrV_inj hA.1 hX.1 (show bc 20 _ = bc 20 _ by rw [bc_bytesI 20 _ (hl hA), bc_bytesI 20 _ (hl hX), e]), fun e => by rw [e]⟩
theorem av_guard (op : BinOp) (x y : Operand) (c d : Array Value) (w : World) : (eqGuard op 23 x y (.agg c) (.agg d)).run Try.prog w = .ok () w := run_eqGuard_agg w op _ x y c d (by kernel_rfl)
section
variable {o : Oper} {a : Act} {w w' : World}
theorem x_eqAv {A X : List Nat} {r : Bool} (hA : Ad A) (hX : Ad X) (hr : decide (A = X) = r) (xo yo : Operand) (yt : TypeId) (ho : o.op = .binOp .eql 23 xo yo yt) (hxe : a.eval xo = .agg (av A)) (hye : a.eval yo = .agg (av X)) : (execOp a.eval o).run Try.prog w = .ok (.value (.bool r)) w := by
  have h := run_eql_struct (P := Try.prog) w 23 (av A) (av X)
  rw [equal_av 9998 hA hX w, hr] at h
  unfold execOp
  simp only [ho, hxe, hye]
  show Sem.run _ _ w = _
  simp only [Sem.run_bind, av_guard, Result.andThen_ok, h, Sem.run_pure]
theorem x_neAv {A X : List Nat} {r : Bool} (hA : Ad A) (hX : Ad X) (hr : decide (A = X) = r) (xo yo : Operand) (yt : TypeId) (ho : o.op = .binOp .neq 23 xo yo yt) (hxe : a.eval xo = .agg (av A)) (hye : a.eval yo = .agg (av X)) : (execOp a.eval o).run Try.prog w = .ok (.value (.bool (!r))) w := by
  have h := run_neq_struct (P := Try.prog) w 23 (av A) (av X)
  rw [equal_av 9998 hA hX w, hr] at h
  unfold execOp
  simp only [ho, hxe, hye]
  show Sem.run _ _ w = _
  simp only [Sem.run_bind, av_guard, Result.andThen_ok, h, Sem.run_pure]
end
section
variable {a : Act} {w : World} {o : Oper} {Q : Exit → Act → World → Prop} {l0 : List Oper}
theorem held_alloc {n : Nat} {K : Act → World → Prop} (ty : TypeId) {c : Array Value} (ho : l0[n]? = some o) (hw : Region.wanted o (yielded l0.toArray a.tmps) = true) (hop : o.op = .alloc ty) (hz : (Try.prog.info? ty).bind (·.zero) = some (.agg c))
    (h : ∀ w' b, Tch [] w w' → Blk w' b ty c → b = w.heap.size → K (a.put o.dst (.pointer (some ⟨b, 0, none⟩))) w') : wpOp Try.prog l0.toArray Q n K a w := by
  have ho' : l0.toArray[n]? = some o := by rw [List.getElem?_toArray]; exact ho
  have hr0 : (Instr.alloc ty true (.tuple #[])).run Try.prog w = .ok (.pointer (some ⟨w.heap.size, 0, none⟩)) (w.alloc (.cells c ty)) := by
    cases hq : Try.prog.info? ty with
    | none => simp [hq] at hz
    | some i =>
      have hz' : i.zero = some (.agg c) := by simpa [hq] using hz
      simp [Instr.alloc, zeroValue, typeInfo, hq, hz', newVar, newRow, Value.cells]
  have hr : (execOp a.eval o).run Try.prog w = .ok (.value (.pointer (some ⟨w.heap.size, 0, none⟩))) (w.alloc (.cells c ty)) := by
    unfold execOp
    simp only [hop, Sem.run_bind, hr0, Result.andThen_ok, Sem.run_pure]
  exact held_run ho hw hr (h _ _ ((Tch.refl _ _).alloc _) (heap_alloc_new w _) rfl)
end
theorem cmpN_lt (x y : Nat) : decide (cmpN x y < 0) = decide (x < y) := by
  unfold cmpN
  by_cases h : x < y
  · simp [h]
  · by_cases h2 : y < x <;> simp [h, h2]
/-- What a Move answers, and makes. -/
def mvOK (E : List Nat → Nat × Nat) (f t : List Nat) (x : Nat) : Bool := decide (x ≤ (E f).2 ∧ (f = t ∨ (E t).2 + x < M256))
def mvE (E : List Nat → Nat × Nat) (f t : List Nat) (x : Nat) : List Nat → Nat × Nat := if f = t then E else upE (upE E f ((E f).1, (E f).2 - x)) t ((E t).1, (E t).2 + x)
def mvR (E : List Nat → Nat × Nat) (f t : List Nat) (x : Nat) : List Nat → Nat × Nat := if mvOK E f t x then mvE E f t x else E
theorem mvR_no {E : List Nat → Nat × Nat} {f t : List Nat} {x : Nat} (h : mvOK E f t x = false) : mvR E f t x = E := by unfold mvR; rw [h]; rfl
theorem mvR_yes {E : List Nat → Nat × Nat} {f t : List Nat} {x : Nat} (h : mvOK E f t x = true) : mvR E f t x = mvE E f t x := by unfold mvR; rw [h]; rfl
theorem splS_all {c d : Array Value} (h : c.size = d.size) : splS c 0 d = d := by
  unfold splS
  rw [Nat.zero_add, List.take_zero, List.nil_append, List.drop_eq_nil_of_le (by simp [h]), List.append_nil]
theorem wadd_lt_iff {q x : Nat} (hq : q < M256) (hx : x < M256) : wadd q x < x ↔ ¬ q + x < M256 := by
  unfold wadd
  by_cases h : q + x < M256
  · rw [Nat.mod_eq_of_lt h]; omega
  · rw [Nat.mod_eq_sub_mod (by omega), Nat.mod_eq_of_lt (by omega)]; omega
theorem wadd_eq_of {q x : Nat} (h : q + x < M256) : wadd q x = q + x := Nat.mod_eq_of_lt h
theorem wsub_eq_of {p x : Nat} (hp : p < M256) (h : x ≤ p) : wsub p x = p - x := by
  unfold wsub
  rw [show p + (M256 - x) = (p - x) + M256 by omega, Nat.add_mod_right, Nat.mod_eq_of_lt (by omega)]
theorem StepP.trans {B M M' : Nat} {bS : Nat} {mv rv : Value} {F : List Nat → Option Nat} {k : Int} {E E' : List Nat → Nat × Nat} {w w1 w2 : World} (h : StepP B M bS mv F rv k E w w1) (h' : ∀ mv1 F1, StP B M w1 bS mv1 rv k F1 E → StepP B M' bS mv1 F1 rv k E' w1 w2) : StepP B M' bS mv F rv k E' w w2 := by
  obtain ⟨mv1, F1, h1, h2, h3⟩ := h
  obtain ⟨mv2, F2, g1, g2, g3⟩ := h' mv1 F1 h1
  refine ⟨mv2, F2, g1, ⟨g2.os.trans h2.os, g2.tape.trans h2.tape, g2.output.trans h2.output, Nat.le_trans h2.size g2.size, fun j hj hn => (g2.block j (Nat.lt_of_lt_of_le hj h2.size) (fun hf => ?_)).trans (h2.block j hj hn)⟩, fun j hj => ?_⟩
  · rcases h3 j hf with g | g
    · exact hn g
    · omega
  · rcases g3 j hj with g | g
    · exact h3 j g
    · exact .inr (Nat.le_trans h2.size g)
theorem move_any (B N : Nat) (w : World) (bS : Nat) (mv : Value) (k : Int) (F : List Nat → Option Nat) (E : List Nat → Nat × Nat) (f t : List Nat) (x : Nat) (h : StP B N w bS mv (.slice none 0 0) k F E) (hf : Ad f) (ht : Ad t) (hN : N < 900000000) (hx : x < M256) :
    Calls Try.prog 9 #[.pointer (some ⟨bS, 0, none⟩), .agg (av f), .agg (av t), .agg (wcells x)] w fun e w' => e = .returned (.bool (mvOK E f t x)) ∧ StepP B (N + 2) bS mv F (.slice none 0 0) k (mvR E f t x) w w' := by
  have H := Lib.hid h
  have HA := Lib.hid (And.intro hf ht)
  have HX := Lib.hid (And.intro hN hx)
  obtain ⟨p, hp⟩ : ∃ p, p = (E f).2 := ⟨_, rfl⟩
  obtain ⟨q, hq⟩ : ∃ q, q = (E t).2 := ⟨_, rfl⟩
  have HP := Lib.hid (And.intro hp (And.intro (h.ok f hf).2 (And.intro hq (h.ok t ht).2)))
  have hstay : ∀ w', Tch [] w w' → StepP B (N + 2) bS mv F (.slice none 0 0) k E w w' := fun w' hT => ⟨mv, F, (h.call hT).more (by omega), PT.nil hT, fun j hj => .inl hj⟩
  have HS := Lib.hid hstay
  clear h hf ht hN hx hp hq hstay
  have hS := St.start w
  go_enter Try.func9, Try.ntmps9
  go_upto_region 0 with (fail)
  try simp only [Act.put, List.setIfInBounds_toArray, List.set_cons_zero, List.set_cons_succ]
  refine wp_region_lit ?_
  refine st_box hS rfl 23 _ rfl rfl ?_; clear hS; intro w1 b1 hS; try simp only [Act.put, List.setIfInBounds_toArray, List.set_cons_zero, List.set_cons_succ]
  refine st_box hS rfl 23 _ rfl rfl ?_; clear hS; intro w2 b2 hS; try simp only [Act.put, List.setIfInBounds_toArray, List.set_cons_zero, List.set_cons_succ]
  refine st_box hS rfl 25 _ rfl rfl ?_; clear hS; intro w3 b3 hS; try simp only [Act.put, List.setIfInBounds_toArray, List.set_cons_zero, List.set_cons_succ]
  refine st_x (v := .bool false) rfl (x_val _ (.inr rfl) rfl) ?_; try simp only [Act.put, List.setIfInBounds_toArray, List.set_cons_zero, List.set_cons_succ]
  refine st_end14 ?_
  have F1 : ∀ u, Tch [] w3 u → Blk u b1 23 (av f) := fun u h => h.blk (hS.get (.tail (.tail .head))) (by simp)
  have F2 : ∀ u, Tch [] w3 u → Blk u b2 23 (av t) := fun u h => h.blk (hS.get (.tail .head)) (by simp)
  have F3 : ∀ u, Tch [] w3 u → Blk u b3 25 (wcells x) := fun u h => h.blk (hS.get .head) (by simp)
  have hT3 := hS.frame
  have hn1 := hS.le (.tail (.tail .head))
  have hn2 := hS.le (.tail .head)
  have hn3 := hS.le .head
  have HB := fun (A : List Nat) (hA : Ad A) u (h : Tch [] w3 u) => balance_any B N u bS mv (.slice none 0 0) k F E A (H.out.call (hT3.trans h)) hA
  have HB1 := Lib.hid (fun u h => HB f HA.out.1 u h)
  have HB2 := Lib.hid (fun u h => HB t HA.out.2 u h)
  rw [← HP.out.1] at HB1
  rw [← HP.out.2.2.1] at HB2
  clear hS HB
  go_upto_region 1 with (fail)
  try simp only [Act.put, List.setIfInBounds_toArray, List.set_cons_zero, List.set_cons_succ]
  refine wp_region_lit ?_
  refine st_x (v := .pointer (some ⟨bS, 0, none⟩)) rfl (x_val _ (.inl rfl) rfl) ?_; try simp only [Act.put, List.setIfInBounds_toArray, List.set_cons_zero, List.set_cons_succ]
  refine st_x (v := .agg (av f)) rfl (x_ld _ rfl rfl (F1 _ (Tch.refl _ _)) addr_tyY rfl (by rw [arrV_size]; exact addr_sizeY)) ?_; try simp only [Act.put, List.setIfInBounds_toArray, List.set_cons_zero, List.set_cons_succ]
  refine st_callS (args := #[.pointer (some ⟨bS, 0, none⟩), .agg (av f)]) rfl rfl (by simp only [List.map_toArray, List.map_cons, List.map_nil]; rfl) Try.call11 (HB1.out _ (Tch.refl _ _)) ?_
  rintro e w4 ⟨rfl, hT4⟩
  refine ⟨_, rfl, ?_⟩
  try simp only [Act.put, List.setIfInBounds_toArray, List.set_cons_zero, List.set_cons_succ]
  have hS := (St.start w3).call hT4
  refine st_new hS rfl 25 rfl word_zeroS ?_; clear hS; intro w5 b9 hS; try simp only [Act.put, List.setIfInBounds_toArray, List.set_cons_zero, List.set_cons_succ]
  refine st_store (b := b9) (c' := wcells p) hS rfl 25 _ _ rfl rfl rfl .head wordN_size (wc_size _) (wc_size _) (wc_one _) ?_; clear hS; intro w6 hS; try simp only [Act.put, List.setIfInBounds_toArray, List.set_cons_zero, List.set_cons_succ]
  refine st_end14 ?_
  have hT6 := hS.frame
  have hn9 : w.heap.size ≤ b9 := Nat.le_trans hT3.size (hS.le .head)
  have F9 : ∀ u, Tch [] w6 u → Blk u b9 25 (wcells p) := fun u h => h.blk (hS.get .head) (by simp)
  clear hS
  go_upto_region 2 with (fail)
  try simp only [Act.put, List.setIfInBounds_toArray, List.set_cons_zero, List.set_cons_succ]
  refine wp_region_lit ?_
  refine st_x (v := .agg (wcells p)) rfl (x_ld _ rfl rfl (F9 _ (Tch.refl _ _)) wordN_type rfl (by rw [wc_size]; exact wordN_size)) ?_; try simp only [Act.put, List.setIfInBounds_toArray, List.set_cons_zero, List.set_cons_succ]
  refine st_x (v := .agg (wcells x)) rfl (x_ld _ rfl rfl (F3 _ hT6) wordN_type rfl (by rw [wc_size]; exact wordN_size)) ?_; try simp only [Act.put, List.setIfInBounds_toArray, List.set_cons_zero, List.set_cons_succ]
  refine st_callS (args := #[.agg (wcells p), .agg (wcells x)]) rfl rfl (by simp only [List.map_toArray, List.map_cons, List.map_nil]; rfl) Try.call25 (Cmp_any p x (by rw [HP.out.1]; exact HP.out.2.1) HX.out.2 _) ?_
  rintro e w7 ⟨rfl, hT7⟩
  refine ⟨_, rfl, ?_⟩
  try simp only [Act.put, List.setIfInBounds_toArray, List.set_cons_zero, List.set_cons_succ]
  have hT67 := hT6.trans hT7
  by_cases h1 : p < x
  · have hd : decide (cmpN p x < 0) = true := by rw [cmpN_lt]; exact decide_eq_true h1
    have hR : mvOK E f t x = false := by unfold mvOK; rw [← HP.out.1]; exact decide_eq_false (fun h => by omega)
    have HR := Lib.hid hR
    clear h1 hR
    refine st_x (v := .bool true) rfl (x_lssI hd _ _ _ _ rfl rfl rfl) ?_; try simp only [Act.put, List.setIfInBounds_toArray, List.set_cons_zero, List.set_cons_succ]
    refine st_end14 ?_
    go_wp2
    go_ret
    rw [HR.out, mvR_no HR.out]
    exact ⟨rfl, HS.out _ (hT3.trans hT67)⟩
  have hd : decide (cmpN p x < 0) = false := by rw [cmpN_lt]; exact decide_eq_false h1
  have H1 := Lib.hid (show x ≤ p by omega)
  clear h1
  refine st_x (v := .bool false) rfl (x_lssI hd _ _ _ _ rfl rfl rfl) ?_; try simp only [Act.put, List.setIfInBounds_toArray, List.set_cons_zero, List.set_cons_succ]
  refine st_end14 ?_
  clear hd
  go_upto_region 4 with (fail)
  try simp only [Act.put, List.setIfInBounds_toArray, List.set_cons_zero, List.set_cons_succ]
  refine wp_region_lit ?_
  refine st_x (v := .agg (av f)) rfl (x_ld _ rfl rfl (F1 _ hT67) addr_tyY rfl (by rw [arrV_size]; exact addr_sizeY)) ?_; try simp only [Act.put, List.setIfInBounds_toArray, List.set_cons_zero, List.set_cons_succ]
  refine st_x (v := .agg (av t)) rfl (x_ld _ rfl rfl (F2 _ hT67) addr_tyY rfl (by rw [arrV_size]; exact addr_sizeY)) ?_; try simp only [Act.put, List.setIfInBounds_toArray, List.set_cons_zero, List.set_cons_succ]
  by_cases h2 : f = t
  · have hR : mvOK E f t x = true := by unfold mvOK; rw [← HP.out.1]; exact decide_eq_true ⟨H1.out, .inl h2⟩
    have HR := Lib.hid (And.intro hR (show mvE E f t x = E from if_pos h2))
    have hd : decide (f = t) = true := decide_eq_true h2
    clear h2 hR
    refine st_x (v := .bool true) rfl (x_eqAv HA.out.1 HA.out.2 hd _ _ _ rfl rfl rfl) ?_; try simp only [Act.put, List.setIfInBounds_toArray, List.set_cons_zero, List.set_cons_succ]
    refine st_end14 ?_
    go_wp2
    go_ret
    rw [HR.out.1, mvR_yes HR.out.1, HR.out.2]
    exact ⟨rfl, HS.out _ (hT3.trans hT67)⟩
  have hd : decide (f = t) = false := decide_eq_false h2
  have H2 := Lib.hid h2
  clear h2
  refine st_x (v := .bool false) rfl (x_eqAv HA.out.1 HA.out.2 hd _ _ _ rfl rfl rfl) ?_; try simp only [Act.put, List.setIfInBounds_toArray, List.set_cons_zero, List.set_cons_succ]
  refine st_end14 ?_
  clear hd
  go_upto_region 6 with (fail)
  try simp only [Act.put, List.setIfInBounds_toArray, List.set_cons_zero, List.set_cons_succ]
  refine wp_region_held_drew (S := fun w' => Tch [] w7 w') (by kernel_rfl) ((Tch.refl _ _).drew) (fun hC => ?_)
  generalize World.drew w7 = u0 at hC ⊢
  have G2 : ∀ u, Tch [] w7 u → Blk u b2 23 (av t) := fun u h => F2 u (hT67.trans h)
  have G3 : ∀ u, Tch [] w7 u → Blk u b3 25 (wcells x) := fun u h => F3 u (hT67.trans h)
  have GB := Lib.hid (fun u (h : Tch [] w7 u) => HB2.out u (hT67.trans h))
  refine held_in (v := .pointer (some ⟨bS, 0, none⟩)) 0 rfl (by kernel_rfl) (by kernel_rfl) (by kernel_rfl) (fun _ _ _ h => h) hC rfl (fun w' hw' => x_val _ (.inl rfl) rfl) ?_; try simp only [Act.put, List.setIfInBounds_toArray, List.set_cons_zero, List.set_cons_succ]
  refine held_in (v := .agg (av t)) 1 rfl (by kernel_rfl) (by kernel_rfl) (by kernel_rfl) (fun _ _ _ h => h) hC rfl (fun w' hw' => x_ld _ rfl rfl (G2 _ hw') addr_tyY rfl (by rw [arrV_size]; exact addr_sizeY)) ?_; try simp only [Act.put, List.setIfInBounds_toArray, List.set_cons_zero, List.set_cons_succ]
  refine held_in (v := .agg (wcells x)) 3 rfl (by kernel_rfl) (by kernel_rfl) (by kernel_rfl) (fun _ _ _ h => h) hC rfl (fun w' hw' => x_ld _ rfl rfl (G3 _ hw') wordN_type rfl (by rw [wc_size]; exact wordN_size)) ?_; try simp only [Act.put, List.setIfInBounds_toArray, List.set_cons_zero, List.set_cons_succ]
  have hCu0 := hC
  refine held_two 2 5 (by kernel_rfl) ?_ ?_
  · refine held_callS (args := #[.pointer (some ⟨bS, 0, none⟩), .agg (av t)]) rfl rfl rfl (by simp only [List.map_toArray, List.map_cons, List.map_nil]; rfl) Try.call11 (GB.out u0 hCu0) ?_
    rintro e u02 ⟨rfl, hTu02⟩
    have hCu02 := hCu0.trans hTu02
    refine ⟨_, rfl, hCu02, ?_⟩
    try simp only [Act.put, List.setIfInBounds_toArray, List.set_cons_zero, List.set_cons_succ]
    refine held_two 4 5 (by kernel_rfl) ?_ ?_
    · refine held_callS (args := #[.agg (wcells q), .agg (wcells x)]) rfl rfl rfl (by simp only [List.map_toArray, List.map_cons, List.map_nil]; rfl) Try.call26 (add_any q x u02) ?_
      rintro e u024 ⟨rfl, hTu024⟩
      have hCu024 := hCu02.trans hTu024
      refine ⟨_, rfl, hCu024, ?_⟩
      try simp only [Act.put, List.setIfInBounds_toArray, List.set_cons_zero, List.set_cons_succ]
      refine held_one 5 (by kernel_rfl) ?_
      refine held_alloc 25 rfl rfl rfl word_zeroS ?_
      intro u0245 b10 hTu0245 hb10 hbn
      have hle : w7.heap.size ≤ b10 := by rw [hbn]; exact hCu024.size
      have hCu0245 := hCu024.trans hTu0245
      clear hbn
      refine ⟨hCu0245, ?_⟩
      try simp only [Act.put, List.setIfInBounds_toArray, List.set_cons_zero, List.set_cons_succ]
      have hb := hb10
      obtain ⟨u, hu⟩ : ∃ u, u = u0245 := ⟨_, rfl⟩
      rw [← hu] at hb hCu0245 ⊢
      have hC := hCu0245
      clear hu hCu0245
      obtain ⟨w8, hw8⟩ : ∃ w8, w8 = u.setRow b10 (splS (wcells 0) 0 (wcells (wadd q x))) := ⟨_, rfl⟩
      refine held_one 6 (by kernel_rfl) ?_
      refine held_skip (w' := w8) rfl rfl (by rw [hw8]; exact r_store _ _ rfl rfl rfl hb wordN_size (wc_size _) (by rw [wc_size, wc_size]; decide) (wc_one _)) ?_
      have hO8 : Only b10 u w8 := by rw [hw8]; exact Only.setRow _ _ _
      have hb8 : Blk w8 b10 25 (wcells (wadd q x)) := by rw [hw8]; have := hb.row (splS (wcells 0) 0 (wcells (wadd q x))); rwa [splS_all (by rw [wc_size, wc_size])] at this
      have hn10 : w.heap.size ≤ b10 := Nat.le_trans (hT3.trans hT67).size hle
      have hC8 : Tch [] w7 w8 := hC.only hO8 (.inl hle)
      clear hw8 hb hO8 hC
      refine ⟨hC8, ?_⟩
      try simp only [Act.put, List.setIfInBounds_toArray, List.set_cons_zero, List.set_cons_succ]
      refine wpAnyH_done (by kernel_rfl) ?_ _
      have G10 : ∀ u, Tch [] w8 u → Blk u b10 25 (wcells (wadd q x)) := fun u h => h.blk hb8 (by simp)
      have hT8 := hT67.trans hC8
      have G9 : ∀ u, Tch [] w8 u → Blk u b9 25 (wcells p) := fun u h => F9 u ((hT7.trans hC8).trans h)
      go_upto_region 7 with (fail)
      try simp only [Act.put, List.setIfInBounds_toArray, List.set_cons_zero, List.set_cons_succ]
      refine wp_region_lit ?_
      refine st_x (v := .agg (wcells (wadd q x))) rfl (x_ld _ rfl rfl (G10 _ (Tch.refl _ _)) wordN_type rfl (by rw [wc_size]; exact wordN_size)) ?_; try simp only [Act.put, List.setIfInBounds_toArray, List.set_cons_zero, List.set_cons_succ]
      refine st_x (v := .agg (wcells x)) rfl (x_ld _ rfl rfl (F3 _ hT8) wordN_type rfl (by rw [wc_size]; exact wordN_size)) ?_; try simp only [Act.put, List.setIfInBounds_toArray, List.set_cons_zero, List.set_cons_succ]
      refine st_callS (args := #[.agg (wcells (wadd q x)), .agg (wcells x)]) rfl rfl (by simp only [List.map_toArray, List.map_cons, List.map_nil]; rfl) Try.call25 (Cmp_any (wadd q x) x (wadd_lt _ _) HX.out.2 _) ?_
      rintro e w9 ⟨rfl, hT9⟩
      refine ⟨_, rfl, ?_⟩
      try simp only [Act.put, List.setIfInBounds_toArray, List.set_cons_zero, List.set_cons_succ]
      by_cases h3 : wadd q x < x
      · have hd : decide (cmpN (wadd q x) x < 0) = true := by rw [cmpN_lt]; exact decide_eq_true h3
        have hR : mvOK E f t x = false := by unfold mvOK; rw [← HP.out.2.2.1]; exact decide_eq_false (fun h => h.2.elim H2.out ((wadd_lt_iff (by rw [HP.out.2.2.1]; exact HP.out.2.2.2) HX.out.2).1 h3))
        have HR := Lib.hid hR
        clear h3 hR
        refine st_x (v := .bool true) rfl (x_lssI hd _ _ _ _ rfl rfl rfl) ?_; try simp only [Act.put, List.setIfInBounds_toArray, List.set_cons_zero, List.set_cons_succ]
        refine st_end14 ?_
        go_wp2
        go_ret
        rw [HR.out, mvR_no HR.out]
        exact ⟨rfl, HS.out _ (hT3.trans (hT8.trans hT9))⟩
      have hd : decide (cmpN (wadd q x) x < 0) = false := by rw [cmpN_lt]; exact decide_eq_false h3
      have hsum : q + x < M256 := Classical.byContradiction fun h => h3 ((wadd_lt_iff (by rw [HP.out.2.2.1]; exact HP.out.2.2.2) HX.out.2).2 h)
      have H3 := Lib.hid hsum
      clear h3 hsum
      refine st_x (v := .bool false) rfl (x_lssI hd _ _ _ _ rfl rfl rfl) ?_; try simp only [Act.put, List.setIfInBounds_toArray, List.set_cons_zero, List.set_cons_succ]
      refine st_end14 ?_
      clear hd
      have hTw9 := hT3.trans (hT8.trans hT9)
      have HP9 := Lib.hid (H.out.call hTw9)
      have hlt : ∀ j, foot bS mv F j → j < w.heap.size := fun j hj => (H.out.lt hj).2
      have J1 : ∀ u, PT (foot bS mv F) w9 u → Blk u b1 23 (av f) := fun u h => h.blk (F1 _ (hT8.trans hT9)) (fun hj => by have := hlt b1 hj; omega)
      have J2 : ∀ u, PT (foot bS mv F) w9 u → Blk u b2 23 (av t) := fun u h => h.blk (F2 _ (hT8.trans hT9)) (fun hj => by have := hlt b2 hj; omega)
      have J3 : ∀ u, PT (foot bS mv F) w9 u → Blk u b3 25 (wcells x) := fun u h => h.blk (F3 _ (hT8.trans hT9)) (fun hj => by have := hlt b3 hj; omega)
      have J9 : ∀ u, PT (foot bS mv F) w9 u → Blk u b9 25 (wcells p) := fun u h => h.blk (G9 _ hT9) (fun hj => by have := hlt b9 hj; omega)
      have J10 : ∀ u, PT (foot bS mv F) w9 u → Blk u b10 25 (wcells (wadd q x)) := fun u h => h.blk (G10 _ hT9) (fun hj => by have := hlt b10 hj; omega)
      go_upto_region 9 with (fail)
      try simp only [Act.put, List.setIfInBounds_toArray, List.set_cons_zero, List.set_cons_succ]
      refine wp_region_held_drew (S := fun w' => PT (foot bS mv F) w9 w') (by kernel_rfl) (PT.nil ((Tch.refl _ _).drew)) (fun hD => ?_)
      have hTd : Tch [] w9 w9.drew := (Tch.refl [] w9).drew
      generalize World.drew w9 = v0 at hD hTd ⊢
      refine held_in (v := .pointer (some ⟨bS, 0, none⟩)) 0 rfl (by kernel_rfl) (by kernel_rfl) (by kernel_rfl) (fun _ _ _ h => h) hD rfl (fun w' hw' => x_val _ (.inl rfl) rfl) ?_; try simp only [Act.put, List.setIfInBounds_toArray, List.set_cons_zero, List.set_cons_succ]
      refine held_in (v := .agg (av f)) 1 rfl (by kernel_rfl) (by kernel_rfl) (by kernel_rfl) (fun _ _ _ h => h) hD rfl (fun w' hw' => x_ld _ rfl rfl (J1 _ hw') addr_tyY rfl (by rw [arrV_size]; exact addr_sizeY)) ?_; try simp only [Act.put, List.setIfInBounds_toArray, List.set_cons_zero, List.set_cons_succ]
      refine held_in (v := .agg (wcells p)) 2 rfl (by kernel_rfl) (by kernel_rfl) (by kernel_rfl) (fun _ _ _ h => h) hD rfl (fun w' hw' => x_ld _ rfl rfl (J9 _ hw') wordN_type rfl (by rw [wc_size]; exact wordN_size)) ?_; try simp only [Act.put, List.setIfInBounds_toArray, List.set_cons_zero, List.set_cons_succ]
      refine held_in (v := .agg (wcells x)) 3 rfl (by kernel_rfl) (by kernel_rfl) (by kernel_rfl) (fun _ _ _ h => h) hD rfl (fun w' hw' => x_ld _ rfl rfl (J3 _ hw') wordN_type rfl (by rw [wc_size]; exact wordN_size)) ?_; try simp only [Act.put, List.setIfInBounds_toArray, List.set_cons_zero, List.set_cons_succ]
      refine held_one 4 (by kernel_rfl) ?_
      refine held_callS (args := #[.agg (wcells p), .agg (wcells x)]) rfl rfl rfl (by simp only [List.map_toArray, List.map_cons, List.map_nil]; rfl) Try.call27 (sub_any p x HX.out.2 v0) ?_
      rintro e v1 ⟨rfl, hTv1⟩
      rw [wsub_eq_of (by rw [HP.out.1]; exact HP.out.2.1) H1.out]
      refine ⟨_, rfl, hD.trans (PT.nil hTv1), ?_⟩
      try simp only [Act.put, List.setIfInBounds_toArray, List.set_cons_zero, List.set_cons_succ]
      refine held_one 5 (by kernel_rfl) ?_
      refine held_callS (args := #[.pointer (some ⟨bS, 0, none⟩), .agg (av f), .agg (wcells (p - x))]) rfl rfl rfl (by simp only [List.map_toArray, List.map_cons, List.map_nil]; rfl) Try.call7 (setBal_any B N v1 bS mv k F E f (p - x) (HP9.out.call (hTd.trans hTv1)) HA.out.1 (by have := HX.out.1; omega) (by have := HP.out.2.1; rw [← HP.out.1] at this; omega)) ?_
      rintro e v2 ⟨rfl, mv2, FF2, g1, g2, g3⟩
      have hD2 : PT (foot bS mv F) w9 v2 := ((PT.nil (hTd.trans hTv1)).trans g2)
      refine ⟨_, rfl, hD2, ?_⟩
      try simp only [Act.put, List.setIfInBounds_toArray, List.set_cons_zero, List.set_cons_succ]
      refine wpAnyH_done (by kernel_rfl) ?_ _
      go_upto_region 10 with (fail)
      try simp only [Act.put, List.setIfInBounds_toArray, List.set_cons_zero, List.set_cons_succ]
      refine wp_region_lit ?_
      refine st_x (v := .pointer (some ⟨bS, 0, none⟩)) rfl (x_val _ (.inl rfl) rfl) ?_; try simp only [Act.put, List.setIfInBounds_toArray, List.set_cons_zero, List.set_cons_succ]
      refine st_x (v := .agg (av t)) rfl (x_ld _ rfl rfl (J2 _ hD2) addr_tyY rfl (by rw [arrV_size]; exact addr_sizeY)) ?_; try simp only [Act.put, List.setIfInBounds_toArray, List.set_cons_zero, List.set_cons_succ]
      refine st_x (v := .agg (wcells (wadd q x))) rfl (x_ld _ rfl rfl (J10 _ hD2) wordN_type rfl (by rw [wc_size]; exact wordN_size)) ?_; try simp only [Act.put, List.setIfInBounds_toArray, List.set_cons_zero, List.set_cons_succ]
      refine st_callS (args := #[.pointer (some ⟨bS, 0, none⟩), .agg (av t), .agg (wcells (wadd q x))]) rfl rfl (by simp only [List.map_toArray, List.map_cons, List.map_nil]; rfl) Try.call7 (setBal_any B (N + 1) v2 bS mv2 k FF2 (upE E f ((E f).1, p - x)) t (wadd q x) g1 HA.out.2 (by have := HX.out.1; omega) (wadd_lt _ _)) ?_
      rintro e v3 ⟨rfl, hstep⟩
      refine ⟨_, rfl, ?_⟩
      try simp only [Act.put, List.setIfInBounds_toArray, List.set_cons_zero, List.set_cons_succ]
      refine st_end14 ?_
      go_wp2
      go_ret
      have hR : mvOK E f t x = true := by unfold mvOK; rw [← HP.out.1, ← HP.out.2.2.1]; exact decide_eq_true ⟨H1.out, .inr H3.out⟩
      rw [hR, mvR_yes hR]
      refine ⟨rfl, ?_⟩
      have hE : mvE E f t x = upE (upE E f ((E f).1, p - x)) t (((upE E f ((E f).1, p - x)) t).1, wadd q x) := by
        unfold mvE
        rw [if_neg H2.out, wadd_eq_of H3.out, ← HP.out.1, ← HP.out.2.2.1]
        have : (upE E f ((E f).1, p - x)) t = E t := by unfold upE; rw [if_neg (fun e => H2.out e.symm)]
        rw [this]
      rw [hE]
      have hS1 : StepP B (N + 1) bS mv F (.slice none 0 0) k (upE E f ((E f).1, p - x)) w v2 := ⟨mv2, FF2, g1, (PT.nil hTw9).trans hD2, fun j hj => (g3 j hj).imp id (fun g => Nat.le_trans (Nat.le_trans hTw9.size (hTd.trans hTv1).size) g)⟩
      obtain ⟨mv3, FF3, k1, k2, k3⟩ := hstep
      refine ⟨mv3, FF3, k1, ⟨k2.os.trans hS1.choose_spec.choose_spec.2.1.os, k2.tape.trans hS1.choose_spec.choose_spec.2.1.tape, k2.output.trans hS1.choose_spec.choose_spec.2.1.output, Nat.le_trans hS1.choose_spec.choose_spec.2.1.size k2.size, fun j hj hn => ?_⟩, fun j hj => ?_⟩
      · have hP2 := (PT.nil (S := foot bS mv F) hTw9).trans hD2
        refine (k2.block j (Nat.lt_of_lt_of_le hj hP2.size) (fun hf => ?_)).trans (hP2.block j hj hn)
        rcases g3 j hf with g | g
        · exact hn g
        · have := hTw9.size; have := (hTd.trans hTv1).size; omega
      · rcases k3 j hj with g | g
        · exact (g3 j g).imp id (fun g => Nat.le_trans (Nat.le_trans hTw9.size (hTd.trans hTv1).size) g)
        · exact .inr (Nat.le_trans ((PT.nil (S := foot bS mv F) hTw9).trans hD2).size g)
    · refine held_alloc 25 rfl rfl rfl word_zeroS ?_
      intro u025 b10 hTu025 hb10 hbn
      have hle : w7.heap.size ≤ b10 := by rw [hbn]; exact hCu02.size
      have hCu025 := hCu02.trans hTu025
      clear hbn
      refine ⟨hCu025, ?_⟩
      try simp only [Act.put, List.setIfInBounds_toArray, List.set_cons_zero, List.set_cons_succ]
      refine held_one 4 (by kernel_rfl) ?_
      refine held_callS (args := #[.agg (wcells q), .agg (wcells x)]) rfl rfl rfl (by simp only [List.map_toArray, List.map_cons, List.map_nil]; rfl) Try.call26 (add_any q x u025) ?_
      rintro e u0254 ⟨rfl, hTu0254⟩
      have hCu0254 := hCu025.trans hTu0254
      replace hb10 := hTu0254.blk hb10 (by simp)
      refine ⟨_, rfl, hCu0254, ?_⟩
      try simp only [Act.put, List.setIfInBounds_toArray, List.set_cons_zero, List.set_cons_succ]
      have hb := hb10
      obtain ⟨u, hu⟩ : ∃ u, u = u0254 := ⟨_, rfl⟩
      rw [← hu] at hb hCu0254 ⊢
      have hC := hCu0254
      clear hu hCu0254
      obtain ⟨w8, hw8⟩ : ∃ w8, w8 = u.setRow b10 (splS (wcells 0) 0 (wcells (wadd q x))) := ⟨_, rfl⟩
      refine held_one 6 (by kernel_rfl) ?_
      refine held_skip (w' := w8) rfl rfl (by rw [hw8]; exact r_store _ _ rfl rfl rfl hb wordN_size (wc_size _) (by rw [wc_size, wc_size]; decide) (wc_one _)) ?_
      have hO8 : Only b10 u w8 := by rw [hw8]; exact Only.setRow _ _ _
      have hb8 : Blk w8 b10 25 (wcells (wadd q x)) := by rw [hw8]; have := hb.row (splS (wcells 0) 0 (wcells (wadd q x))); rwa [splS_all (by rw [wc_size, wc_size])] at this
      have hn10 : w.heap.size ≤ b10 := Nat.le_trans (hT3.trans hT67).size hle
      have hC8 : Tch [] w7 w8 := hC.only hO8 (.inl hle)
      clear hw8 hb hO8 hC
      refine ⟨hC8, ?_⟩
      try simp only [Act.put, List.setIfInBounds_toArray, List.set_cons_zero, List.set_cons_succ]
      refine wpAnyH_done (by kernel_rfl) ?_ _
      have G10 : ∀ u, Tch [] w8 u → Blk u b10 25 (wcells (wadd q x)) := fun u h => h.blk hb8 (by simp)
      have hT8 := hT67.trans hC8
      have G9 : ∀ u, Tch [] w8 u → Blk u b9 25 (wcells p) := fun u h => F9 u ((hT7.trans hC8).trans h)
      go_upto_region 7 with (fail)
      try simp only [Act.put, List.setIfInBounds_toArray, List.set_cons_zero, List.set_cons_succ]
      refine wp_region_lit ?_
      refine st_x (v := .agg (wcells (wadd q x))) rfl (x_ld _ rfl rfl (G10 _ (Tch.refl _ _)) wordN_type rfl (by rw [wc_size]; exact wordN_size)) ?_; try simp only [Act.put, List.setIfInBounds_toArray, List.set_cons_zero, List.set_cons_succ]
      refine st_x (v := .agg (wcells x)) rfl (x_ld _ rfl rfl (F3 _ hT8) wordN_type rfl (by rw [wc_size]; exact wordN_size)) ?_; try simp only [Act.put, List.setIfInBounds_toArray, List.set_cons_zero, List.set_cons_succ]
      refine st_callS (args := #[.agg (wcells (wadd q x)), .agg (wcells x)]) rfl rfl (by simp only [List.map_toArray, List.map_cons, List.map_nil]; rfl) Try.call25 (Cmp_any (wadd q x) x (wadd_lt _ _) HX.out.2 _) ?_
      rintro e w9 ⟨rfl, hT9⟩
      refine ⟨_, rfl, ?_⟩
      try simp only [Act.put, List.setIfInBounds_toArray, List.set_cons_zero, List.set_cons_succ]
      by_cases h3 : wadd q x < x
      · have hd : decide (cmpN (wadd q x) x < 0) = true := by rw [cmpN_lt]; exact decide_eq_true h3
        have hR : mvOK E f t x = false := by unfold mvOK; rw [← HP.out.2.2.1]; exact decide_eq_false (fun h => h.2.elim H2.out ((wadd_lt_iff (by rw [HP.out.2.2.1]; exact HP.out.2.2.2) HX.out.2).1 h3))
        have HR := Lib.hid hR
        clear h3 hR
        refine st_x (v := .bool true) rfl (x_lssI hd _ _ _ _ rfl rfl rfl) ?_; try simp only [Act.put, List.setIfInBounds_toArray, List.set_cons_zero, List.set_cons_succ]
        refine st_end14 ?_
        go_wp2
        go_ret
        rw [HR.out, mvR_no HR.out]
        exact ⟨rfl, HS.out _ (hT3.trans (hT8.trans hT9))⟩
      have hd : decide (cmpN (wadd q x) x < 0) = false := by rw [cmpN_lt]; exact decide_eq_false h3
      have hsum : q + x < M256 := Classical.byContradiction fun h => h3 ((wadd_lt_iff (by rw [HP.out.2.2.1]; exact HP.out.2.2.2) HX.out.2).2 h)
      have H3 := Lib.hid hsum
      clear h3 hsum
      refine st_x (v := .bool false) rfl (x_lssI hd _ _ _ _ rfl rfl rfl) ?_; try simp only [Act.put, List.setIfInBounds_toArray, List.set_cons_zero, List.set_cons_succ]
      refine st_end14 ?_
      clear hd
      have hTw9 := hT3.trans (hT8.trans hT9)
      have HP9 := Lib.hid (H.out.call hTw9)
      have hlt : ∀ j, foot bS mv F j → j < w.heap.size := fun j hj => (H.out.lt hj).2
      have J1 : ∀ u, PT (foot bS mv F) w9 u → Blk u b1 23 (av f) := fun u h => h.blk (F1 _ (hT8.trans hT9)) (fun hj => by have := hlt b1 hj; omega)
      have J2 : ∀ u, PT (foot bS mv F) w9 u → Blk u b2 23 (av t) := fun u h => h.blk (F2 _ (hT8.trans hT9)) (fun hj => by have := hlt b2 hj; omega)
      have J3 : ∀ u, PT (foot bS mv F) w9 u → Blk u b3 25 (wcells x) := fun u h => h.blk (F3 _ (hT8.trans hT9)) (fun hj => by have := hlt b3 hj; omega)
      have J9 : ∀ u, PT (foot bS mv F) w9 u → Blk u b9 25 (wcells p) := fun u h => h.blk (G9 _ hT9) (fun hj => by have := hlt b9 hj; omega)
      have J10 : ∀ u, PT (foot bS mv F) w9 u → Blk u b10 25 (wcells (wadd q x)) := fun u h => h.blk (G10 _ hT9) (fun hj => by have := hlt b10 hj; omega)
      go_upto_region 9 with (fail)
      try simp only [Act.put, List.setIfInBounds_toArray, List.set_cons_zero, List.set_cons_succ]
      refine wp_region_held_drew (S := fun w' => PT (foot bS mv F) w9 w') (by kernel_rfl) (PT.nil ((Tch.refl _ _).drew)) (fun hD => ?_)
      have hTd : Tch [] w9 w9.drew := (Tch.refl [] w9).drew
      generalize World.drew w9 = v0 at hD hTd ⊢
      refine held_in (v := .pointer (some ⟨bS, 0, none⟩)) 0 rfl (by kernel_rfl) (by kernel_rfl) (by kernel_rfl) (fun _ _ _ h => h) hD rfl (fun w' hw' => x_val _ (.inl rfl) rfl) ?_; try simp only [Act.put, List.setIfInBounds_toArray, List.set_cons_zero, List.set_cons_succ]
      refine held_in (v := .agg (av f)) 1 rfl (by kernel_rfl) (by kernel_rfl) (by kernel_rfl) (fun _ _ _ h => h) hD rfl (fun w' hw' => x_ld _ rfl rfl (J1 _ hw') addr_tyY rfl (by rw [arrV_size]; exact addr_sizeY)) ?_; try simp only [Act.put, List.setIfInBounds_toArray, List.set_cons_zero, List.set_cons_succ]
      refine held_in (v := .agg (wcells p)) 2 rfl (by kernel_rfl) (by kernel_rfl) (by kernel_rfl) (fun _ _ _ h => h) hD rfl (fun w' hw' => x_ld _ rfl rfl (J9 _ hw') wordN_type rfl (by rw [wc_size]; exact wordN_size)) ?_; try simp only [Act.put, List.setIfInBounds_toArray, List.set_cons_zero, List.set_cons_succ]
      refine held_in (v := .agg (wcells x)) 3 rfl (by kernel_rfl) (by kernel_rfl) (by kernel_rfl) (fun _ _ _ h => h) hD rfl (fun w' hw' => x_ld _ rfl rfl (J3 _ hw') wordN_type rfl (by rw [wc_size]; exact wordN_size)) ?_; try simp only [Act.put, List.setIfInBounds_toArray, List.set_cons_zero, List.set_cons_succ]
      refine held_one 4 (by kernel_rfl) ?_
      refine held_callS (args := #[.agg (wcells p), .agg (wcells x)]) rfl rfl rfl (by simp only [List.map_toArray, List.map_cons, List.map_nil]; rfl) Try.call27 (sub_any p x HX.out.2 v0) ?_
      rintro e v1 ⟨rfl, hTv1⟩
      rw [wsub_eq_of (by rw [HP.out.1]; exact HP.out.2.1) H1.out]
      refine ⟨_, rfl, hD.trans (PT.nil hTv1), ?_⟩
      try simp only [Act.put, List.setIfInBounds_toArray, List.set_cons_zero, List.set_cons_succ]
      refine held_one 5 (by kernel_rfl) ?_
      refine held_callS (args := #[.pointer (some ⟨bS, 0, none⟩), .agg (av f), .agg (wcells (p - x))]) rfl rfl rfl (by simp only [List.map_toArray, List.map_cons, List.map_nil]; rfl) Try.call7 (setBal_any B N v1 bS mv k F E f (p - x) (HP9.out.call (hTd.trans hTv1)) HA.out.1 (by have := HX.out.1; omega) (by have := HP.out.2.1; rw [← HP.out.1] at this; omega)) ?_
      rintro e v2 ⟨rfl, mv2, FF2, g1, g2, g3⟩
      have hD2 : PT (foot bS mv F) w9 v2 := ((PT.nil (hTd.trans hTv1)).trans g2)
      refine ⟨_, rfl, hD2, ?_⟩
      try simp only [Act.put, List.setIfInBounds_toArray, List.set_cons_zero, List.set_cons_succ]
      refine wpAnyH_done (by kernel_rfl) ?_ _
      go_upto_region 10 with (fail)
      try simp only [Act.put, List.setIfInBounds_toArray, List.set_cons_zero, List.set_cons_succ]
      refine wp_region_lit ?_
      refine st_x (v := .pointer (some ⟨bS, 0, none⟩)) rfl (x_val _ (.inl rfl) rfl) ?_; try simp only [Act.put, List.setIfInBounds_toArray, List.set_cons_zero, List.set_cons_succ]
      refine st_x (v := .agg (av t)) rfl (x_ld _ rfl rfl (J2 _ hD2) addr_tyY rfl (by rw [arrV_size]; exact addr_sizeY)) ?_; try simp only [Act.put, List.setIfInBounds_toArray, List.set_cons_zero, List.set_cons_succ]
      refine st_x (v := .agg (wcells (wadd q x))) rfl (x_ld _ rfl rfl (J10 _ hD2) wordN_type rfl (by rw [wc_size]; exact wordN_size)) ?_; try simp only [Act.put, List.setIfInBounds_toArray, List.set_cons_zero, List.set_cons_succ]
      refine st_callS (args := #[.pointer (some ⟨bS, 0, none⟩), .agg (av t), .agg (wcells (wadd q x))]) rfl rfl (by simp only [List.map_toArray, List.map_cons, List.map_nil]; rfl) Try.call7 (setBal_any B (N + 1) v2 bS mv2 k FF2 (upE E f ((E f).1, p - x)) t (wadd q x) g1 HA.out.2 (by have := HX.out.1; omega) (wadd_lt _ _)) ?_
      rintro e v3 ⟨rfl, hstep⟩
      refine ⟨_, rfl, ?_⟩
      try simp only [Act.put, List.setIfInBounds_toArray, List.set_cons_zero, List.set_cons_succ]
      refine st_end14 ?_
      go_wp2
      go_ret
      have hR : mvOK E f t x = true := by unfold mvOK; rw [← HP.out.1, ← HP.out.2.2.1]; exact decide_eq_true ⟨H1.out, .inr H3.out⟩
      rw [hR, mvR_yes hR]
      refine ⟨rfl, ?_⟩
      have hE : mvE E f t x = upE (upE E f ((E f).1, p - x)) t (((upE E f ((E f).1, p - x)) t).1, wadd q x) := by
        unfold mvE
        rw [if_neg H2.out, wadd_eq_of H3.out, ← HP.out.1, ← HP.out.2.2.1]
        have : (upE E f ((E f).1, p - x)) t = E t := by unfold upE; rw [if_neg (fun e => H2.out e.symm)]
        rw [this]
      rw [hE]
      have hS1 : StepP B (N + 1) bS mv F (.slice none 0 0) k (upE E f ((E f).1, p - x)) w v2 := ⟨mv2, FF2, g1, (PT.nil hTw9).trans hD2, fun j hj => (g3 j hj).imp id (fun g => Nat.le_trans (Nat.le_trans hTw9.size (hTd.trans hTv1).size) g)⟩
      obtain ⟨mv3, FF3, k1, k2, k3⟩ := hstep
      refine ⟨mv3, FF3, k1, ⟨k2.os.trans hS1.choose_spec.choose_spec.2.1.os, k2.tape.trans hS1.choose_spec.choose_spec.2.1.tape, k2.output.trans hS1.choose_spec.choose_spec.2.1.output, Nat.le_trans hS1.choose_spec.choose_spec.2.1.size k2.size, fun j hj hn => ?_⟩, fun j hj => ?_⟩
      · have hP2 := (PT.nil (S := foot bS mv F) hTw9).trans hD2
        refine (k2.block j (Nat.lt_of_lt_of_le hj hP2.size) (fun hf => ?_)).trans (hP2.block j hj hn)
        rcases g3 j hf with g | g
        · exact hn g
        · have := hTw9.size; have := (hTd.trans hTv1).size; omega
      · rcases k3 j hj with g | g
        · exact (g3 j g).imp id (fun g => Nat.le_trans (Nat.le_trans hTw9.size (hTd.trans hTv1).size) g)
        · exact .inr (Nat.le_trans ((PT.nil (S := foot bS mv F) hTw9).trans hD2).size g)
  · refine held_alloc 25 rfl rfl rfl word_zeroS ?_
    intro u05 b10 hTu05 hb10 hbn
    have hle : w7.heap.size ≤ b10 := by rw [hbn]; exact hCu0.size
    have hCu05 := hCu0.trans hTu05
    clear hbn
    refine ⟨hCu05, ?_⟩
    try simp only [Act.put, List.setIfInBounds_toArray, List.set_cons_zero, List.set_cons_succ]
    refine held_one 2 (by kernel_rfl) ?_
    refine held_callS (args := #[.pointer (some ⟨bS, 0, none⟩), .agg (av t)]) rfl rfl rfl (by simp only [List.map_toArray, List.map_cons, List.map_nil]; rfl) Try.call11 (GB.out u05 hCu05) ?_
    rintro e u052 ⟨rfl, hTu052⟩
    have hCu052 := hCu05.trans hTu052
    replace hb10 := hTu052.blk hb10 (by simp)
    refine ⟨_, rfl, hCu052, ?_⟩
    try simp only [Act.put, List.setIfInBounds_toArray, List.set_cons_zero, List.set_cons_succ]
    refine held_one 4 (by kernel_rfl) ?_
    refine held_callS (args := #[.agg (wcells q), .agg (wcells x)]) rfl rfl rfl (by simp only [List.map_toArray, List.map_cons, List.map_nil]; rfl) Try.call26 (add_any q x u052) ?_
    rintro e u0524 ⟨rfl, hTu0524⟩
    have hCu0524 := hCu052.trans hTu0524
    replace hb10 := hTu0524.blk hb10 (by simp)
    refine ⟨_, rfl, hCu0524, ?_⟩
    try simp only [Act.put, List.setIfInBounds_toArray, List.set_cons_zero, List.set_cons_succ]
    have hb := hb10
    obtain ⟨u, hu⟩ : ∃ u, u = u0524 := ⟨_, rfl⟩
    rw [← hu] at hb hCu0524 ⊢
    have hC := hCu0524
    clear hu hCu0524
    obtain ⟨w8, hw8⟩ : ∃ w8, w8 = u.setRow b10 (splS (wcells 0) 0 (wcells (wadd q x))) := ⟨_, rfl⟩
    refine held_one 6 (by kernel_rfl) ?_
    refine held_skip (w' := w8) rfl rfl (by rw [hw8]; exact r_store _ _ rfl rfl rfl hb wordN_size (wc_size _) (by rw [wc_size, wc_size]; decide) (wc_one _)) ?_
    have hO8 : Only b10 u w8 := by rw [hw8]; exact Only.setRow _ _ _
    have hb8 : Blk w8 b10 25 (wcells (wadd q x)) := by rw [hw8]; have := hb.row (splS (wcells 0) 0 (wcells (wadd q x))); rwa [splS_all (by rw [wc_size, wc_size])] at this
    have hn10 : w.heap.size ≤ b10 := Nat.le_trans (hT3.trans hT67).size hle
    have hC8 : Tch [] w7 w8 := hC.only hO8 (.inl hle)
    clear hw8 hb hO8 hC
    refine ⟨hC8, ?_⟩
    try simp only [Act.put, List.setIfInBounds_toArray, List.set_cons_zero, List.set_cons_succ]
    refine wpAnyH_done (by kernel_rfl) ?_ _
    have G10 : ∀ u, Tch [] w8 u → Blk u b10 25 (wcells (wadd q x)) := fun u h => h.blk hb8 (by simp)
    have hT8 := hT67.trans hC8
    have G9 : ∀ u, Tch [] w8 u → Blk u b9 25 (wcells p) := fun u h => F9 u ((hT7.trans hC8).trans h)
    go_upto_region 7 with (fail)
    try simp only [Act.put, List.setIfInBounds_toArray, List.set_cons_zero, List.set_cons_succ]
    refine wp_region_lit ?_
    refine st_x (v := .agg (wcells (wadd q x))) rfl (x_ld _ rfl rfl (G10 _ (Tch.refl _ _)) wordN_type rfl (by rw [wc_size]; exact wordN_size)) ?_; try simp only [Act.put, List.setIfInBounds_toArray, List.set_cons_zero, List.set_cons_succ]
    refine st_x (v := .agg (wcells x)) rfl (x_ld _ rfl rfl (F3 _ hT8) wordN_type rfl (by rw [wc_size]; exact wordN_size)) ?_; try simp only [Act.put, List.setIfInBounds_toArray, List.set_cons_zero, List.set_cons_succ]
    refine st_callS (args := #[.agg (wcells (wadd q x)), .agg (wcells x)]) rfl rfl (by simp only [List.map_toArray, List.map_cons, List.map_nil]; rfl) Try.call25 (Cmp_any (wadd q x) x (wadd_lt _ _) HX.out.2 _) ?_
    rintro e w9 ⟨rfl, hT9⟩
    refine ⟨_, rfl, ?_⟩
    try simp only [Act.put, List.setIfInBounds_toArray, List.set_cons_zero, List.set_cons_succ]
    by_cases h3 : wadd q x < x
    · have hd : decide (cmpN (wadd q x) x < 0) = true := by rw [cmpN_lt]; exact decide_eq_true h3
      have hR : mvOK E f t x = false := by unfold mvOK; rw [← HP.out.2.2.1]; exact decide_eq_false (fun h => h.2.elim H2.out ((wadd_lt_iff (by rw [HP.out.2.2.1]; exact HP.out.2.2.2) HX.out.2).1 h3))
      have HR := Lib.hid hR
      clear h3 hR
      refine st_x (v := .bool true) rfl (x_lssI hd _ _ _ _ rfl rfl rfl) ?_; try simp only [Act.put, List.setIfInBounds_toArray, List.set_cons_zero, List.set_cons_succ]
      refine st_end14 ?_
      go_wp2
      go_ret
      rw [HR.out, mvR_no HR.out]
      exact ⟨rfl, HS.out _ (hT3.trans (hT8.trans hT9))⟩
    have hd : decide (cmpN (wadd q x) x < 0) = false := by rw [cmpN_lt]; exact decide_eq_false h3
    have hsum : q + x < M256 := Classical.byContradiction fun h => h3 ((wadd_lt_iff (by rw [HP.out.2.2.1]; exact HP.out.2.2.2) HX.out.2).2 h)
    have H3 := Lib.hid hsum
    clear h3 hsum
    refine st_x (v := .bool false) rfl (x_lssI hd _ _ _ _ rfl rfl rfl) ?_; try simp only [Act.put, List.setIfInBounds_toArray, List.set_cons_zero, List.set_cons_succ]
    refine st_end14 ?_
    clear hd
    have hTw9 := hT3.trans (hT8.trans hT9)
    have HP9 := Lib.hid (H.out.call hTw9)
    have hlt : ∀ j, foot bS mv F j → j < w.heap.size := fun j hj => (H.out.lt hj).2
    have J1 : ∀ u, PT (foot bS mv F) w9 u → Blk u b1 23 (av f) := fun u h => h.blk (F1 _ (hT8.trans hT9)) (fun hj => by have := hlt b1 hj; omega)
    have J2 : ∀ u, PT (foot bS mv F) w9 u → Blk u b2 23 (av t) := fun u h => h.blk (F2 _ (hT8.trans hT9)) (fun hj => by have := hlt b2 hj; omega)
    have J3 : ∀ u, PT (foot bS mv F) w9 u → Blk u b3 25 (wcells x) := fun u h => h.blk (F3 _ (hT8.trans hT9)) (fun hj => by have := hlt b3 hj; omega)
    have J9 : ∀ u, PT (foot bS mv F) w9 u → Blk u b9 25 (wcells p) := fun u h => h.blk (G9 _ hT9) (fun hj => by have := hlt b9 hj; omega)
    have J10 : ∀ u, PT (foot bS mv F) w9 u → Blk u b10 25 (wcells (wadd q x)) := fun u h => h.blk (G10 _ hT9) (fun hj => by have := hlt b10 hj; omega)
    go_upto_region 9 with (fail)
    try simp only [Act.put, List.setIfInBounds_toArray, List.set_cons_zero, List.set_cons_succ]
    refine wp_region_held_drew (S := fun w' => PT (foot bS mv F) w9 w') (by kernel_rfl) (PT.nil ((Tch.refl _ _).drew)) (fun hD => ?_)
    have hTd : Tch [] w9 w9.drew := (Tch.refl [] w9).drew
    generalize World.drew w9 = v0 at hD hTd ⊢
    refine held_in (v := .pointer (some ⟨bS, 0, none⟩)) 0 rfl (by kernel_rfl) (by kernel_rfl) (by kernel_rfl) (fun _ _ _ h => h) hD rfl (fun w' hw' => x_val _ (.inl rfl) rfl) ?_; try simp only [Act.put, List.setIfInBounds_toArray, List.set_cons_zero, List.set_cons_succ]
    refine held_in (v := .agg (av f)) 1 rfl (by kernel_rfl) (by kernel_rfl) (by kernel_rfl) (fun _ _ _ h => h) hD rfl (fun w' hw' => x_ld _ rfl rfl (J1 _ hw') addr_tyY rfl (by rw [arrV_size]; exact addr_sizeY)) ?_; try simp only [Act.put, List.setIfInBounds_toArray, List.set_cons_zero, List.set_cons_succ]
    refine held_in (v := .agg (wcells p)) 2 rfl (by kernel_rfl) (by kernel_rfl) (by kernel_rfl) (fun _ _ _ h => h) hD rfl (fun w' hw' => x_ld _ rfl rfl (J9 _ hw') wordN_type rfl (by rw [wc_size]; exact wordN_size)) ?_; try simp only [Act.put, List.setIfInBounds_toArray, List.set_cons_zero, List.set_cons_succ]
    refine held_in (v := .agg (wcells x)) 3 rfl (by kernel_rfl) (by kernel_rfl) (by kernel_rfl) (fun _ _ _ h => h) hD rfl (fun w' hw' => x_ld _ rfl rfl (J3 _ hw') wordN_type rfl (by rw [wc_size]; exact wordN_size)) ?_; try simp only [Act.put, List.setIfInBounds_toArray, List.set_cons_zero, List.set_cons_succ]
    refine held_one 4 (by kernel_rfl) ?_
    refine held_callS (args := #[.agg (wcells p), .agg (wcells x)]) rfl rfl rfl (by simp only [List.map_toArray, List.map_cons, List.map_nil]; rfl) Try.call27 (sub_any p x HX.out.2 v0) ?_
    rintro e v1 ⟨rfl, hTv1⟩
    rw [wsub_eq_of (by rw [HP.out.1]; exact HP.out.2.1) H1.out]
    refine ⟨_, rfl, hD.trans (PT.nil hTv1), ?_⟩
    try simp only [Act.put, List.setIfInBounds_toArray, List.set_cons_zero, List.set_cons_succ]
    refine held_one 5 (by kernel_rfl) ?_
    refine held_callS (args := #[.pointer (some ⟨bS, 0, none⟩), .agg (av f), .agg (wcells (p - x))]) rfl rfl rfl (by simp only [List.map_toArray, List.map_cons, List.map_nil]; rfl) Try.call7 (setBal_any B N v1 bS mv k F E f (p - x) (HP9.out.call (hTd.trans hTv1)) HA.out.1 (by have := HX.out.1; omega) (by have := HP.out.2.1; rw [← HP.out.1] at this; omega)) ?_
    rintro e v2 ⟨rfl, mv2, FF2, g1, g2, g3⟩
    have hD2 : PT (foot bS mv F) w9 v2 := ((PT.nil (hTd.trans hTv1)).trans g2)
    refine ⟨_, rfl, hD2, ?_⟩
    try simp only [Act.put, List.setIfInBounds_toArray, List.set_cons_zero, List.set_cons_succ]
    refine wpAnyH_done (by kernel_rfl) ?_ _
    go_upto_region 10 with (fail)
    try simp only [Act.put, List.setIfInBounds_toArray, List.set_cons_zero, List.set_cons_succ]
    refine wp_region_lit ?_
    refine st_x (v := .pointer (some ⟨bS, 0, none⟩)) rfl (x_val _ (.inl rfl) rfl) ?_; try simp only [Act.put, List.setIfInBounds_toArray, List.set_cons_zero, List.set_cons_succ]
    refine st_x (v := .agg (av t)) rfl (x_ld _ rfl rfl (J2 _ hD2) addr_tyY rfl (by rw [arrV_size]; exact addr_sizeY)) ?_; try simp only [Act.put, List.setIfInBounds_toArray, List.set_cons_zero, List.set_cons_succ]
    refine st_x (v := .agg (wcells (wadd q x))) rfl (x_ld _ rfl rfl (J10 _ hD2) wordN_type rfl (by rw [wc_size]; exact wordN_size)) ?_; try simp only [Act.put, List.setIfInBounds_toArray, List.set_cons_zero, List.set_cons_succ]
    refine st_callS (args := #[.pointer (some ⟨bS, 0, none⟩), .agg (av t), .agg (wcells (wadd q x))]) rfl rfl (by simp only [List.map_toArray, List.map_cons, List.map_nil]; rfl) Try.call7 (setBal_any B (N + 1) v2 bS mv2 k FF2 (upE E f ((E f).1, p - x)) t (wadd q x) g1 HA.out.2 (by have := HX.out.1; omega) (wadd_lt _ _)) ?_
    rintro e v3 ⟨rfl, hstep⟩
    refine ⟨_, rfl, ?_⟩
    try simp only [Act.put, List.setIfInBounds_toArray, List.set_cons_zero, List.set_cons_succ]
    refine st_end14 ?_
    go_wp2
    go_ret
    have hR : mvOK E f t x = true := by unfold mvOK; rw [← HP.out.1, ← HP.out.2.2.1]; exact decide_eq_true ⟨H1.out, .inr H3.out⟩
    rw [hR, mvR_yes hR]
    refine ⟨rfl, ?_⟩
    have hE : mvE E f t x = upE (upE E f ((E f).1, p - x)) t (((upE E f ((E f).1, p - x)) t).1, wadd q x) := by
      unfold mvE
      rw [if_neg H2.out, wadd_eq_of H3.out, ← HP.out.1, ← HP.out.2.2.1]
      have : (upE E f ((E f).1, p - x)) t = E t := by unfold upE; rw [if_neg (fun e => H2.out e.symm)]
      rw [this]
    rw [hE]
    have hS1 : StepP B (N + 1) bS mv F (.slice none 0 0) k (upE E f ((E f).1, p - x)) w v2 := ⟨mv2, FF2, g1, (PT.nil hTw9).trans hD2, fun j hj => (g3 j hj).imp id (fun g => Nat.le_trans (Nat.le_trans hTw9.size (hTd.trans hTv1).size) g)⟩
    obtain ⟨mv3, FF3, k1, k2, k3⟩ := hstep
    refine ⟨mv3, FF3, k1, ⟨k2.os.trans hS1.choose_spec.choose_spec.2.1.os, k2.tape.trans hS1.choose_spec.choose_spec.2.1.tape, k2.output.trans hS1.choose_spec.choose_spec.2.1.output, Nat.le_trans hS1.choose_spec.choose_spec.2.1.size k2.size, fun j hj hn => ?_⟩, fun j hj => ?_⟩
    · have hP2 := (PT.nil (S := foot bS mv F) hTw9).trans hD2
      refine (k2.block j (Nat.lt_of_lt_of_le hj hP2.size) (fun hf => ?_)).trans (hP2.block j hj hn)
      rcases g3 j hf with g | g
      · exact hn g
      · have := hTw9.size; have := (hTd.trans hTv1).size; omega
    · rcases k3 j hj with g | g
      · exact (g3 j g).imp id (fun g => Nat.le_trans (Nat.le_trans hTw9.size (hTd.trans hTv1).size) g)
      · exact .inr (Nat.le_trans ((PT.nil (S := foot bS mv F) hTw9).trans hD2).size g)
end Go.Proofs.Ytklpcppdjcedpaa
