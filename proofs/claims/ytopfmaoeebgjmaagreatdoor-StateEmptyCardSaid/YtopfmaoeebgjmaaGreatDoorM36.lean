/- States: alive. -/
import Derived.Test.YtopfmaoeebgjmaaGreatDoorM01
import Derived.Test.YtopfmaoeebgjmaaGreatDoorM33
import Derived.Test.YtopfmaoeebgjmaaGreatDoorM35
set_option linter.unusedVariables false
set_option linter.unusedSimpArgs false
namespace Go.Proofs.YtopfmaoeebgjmaaGreatDoor
section
open Go.RowKit Go.WideMaps Go.ChangeMaps Go.MapKept
set_option maxRecDepth 100000
set_option maxHeartbeats 2000000
theorem cap_of {w : World} {B g cap : Nat} {t : TypeId} {n : Nat} {us : List Value} (h : w.ownsRow B t n (.slice (some ⟨g, 0, none⟩) 1 cap) 1 us) : 1 ≤ cap := by
  obtain ⟨_, ⟨h1, _⟩ | ⟨g', cap', cur, he, hB, hb, hnc, hcm, hsz, htk⟩⟩ := h
  · cases h1
  injection he with e1 _ e3
  omega
theorem tch_of_below {w w' : World} (h : Below w.heap.size w w') : Tch [] w w' := ⟨h.os, h.tape, h.output, h.size, fun k hk _ => h.block k hk⟩
theorem bld_addr0 (w : World) : (Instr.build 23 #[]).run Tryz.prog w = .ok (.agg (av zA)) w := by kernel_rfl
abbrev E0 : List Nat → Nat × Nat := fun _ => (0, 0)
theorem alive_any (w : World) : Calls Tryz.prog 4 #[] w fun e w' => e = .returned (.bool true) ∧ Tch [] w w' := by
  go_enter Tryz.func4, Tryz.ntmps4
  go_upto_region 1 with (fail)
  try simp only [Act.put, ppA, ppB, ppC]
  refine wp_region_lit ?_
  refine st_callS (args := #[.slice none 0 0]) rfl rfl (by simp only [List.map_toArray, List.map_cons, List.map_nil]; rfl) Tryz.call5 (new_nil w) ?_
  rintro e w1 ⟨bS, rfl, hbS, hT1, hB1⟩
  refine ⟨_, rfl, ?_⟩
  try simp only [Act.put, ppA, ppB, ppC]
  refine st_x (v := .pointer (some ⟨bS, 0, none⟩)) rfl (x_val _ (.inr rfl) rfl) ?_; try simp only [Act.put, ppA, ppB, ppC]
  refine st_end14 ?_
  have hs1 := StP.none w.heap.size 0 w1 bS 0 hbS hB1
  go_upto_region 2 with (fail)
  try simp only [Act.put, ppA, ppB, ppC]
  refine wp_region_lit ?_
  refine st_x (v := .pointer (some ⟨bS, 0, none⟩)) rfl (x_val _ (.inl rfl) rfl) ?_; try simp only [Act.put, ppA, ppB, ppC]
  refine st_x (v := .bool false) rfl (by kernel_rfl) ?_; try simp only [Act.put, ppA, ppB, ppC]
  refine st_end14 ?_
  go_upto_region 4 with (fail)
  try simp only [Act.put, ppA, ppB, ppC]
  refine wp_region_lit ?_
  refine st_x (v := .pointer (some ⟨bS, 0, none⟩)) rfl (x_val _ (.inl rfl) rfl) ?_; try simp only [Act.put, ppA, ppB, ppC]
  refine st_callS (args := #[.pointer (some ⟨bS, 0, none⟩)]) rfl rfl (by simp only [List.map_toArray, List.map_cons, List.map_nil]; rfl) Tryz.call15 (mark_any w.heap.size 0 w1 bS _ _ _ hs1) ?_
  rintro e w2 ⟨rfl, g, cap, hs2, hown, hP2⟩
  refine ⟨_, rfl, ?_⟩
  try simp only [Act.put, ppA, ppB, ppC]
  refine st_x (v := .int .i64 1) rfl (x_val _ (.inr rfl) rfl) ?_; try simp only [Act.put, ppA, ppB, ppC]
  refine st_end14 ?_
  have hR2 := RecB.of hown
  have hcap := cap_of hown
  have hgl := hown.lt g rfl
  have hT2 : Tch [] w w2 := hP2.tch hT1 (fun k hk => by rw [hk]; exact hbS)
  have hg2 : ¬ foot bS (.map none) (fun _ => none) g := fun hf => by have := (hs1.lt hf).2; omega
  have hBg : w.heap.size ≤ g := Nat.le_trans hT1.size hgl.1
  go_upto_region 5 with (fail)
  try simp only [Act.put, ppA, ppB, ppC]
  refine wp_region_lit ?_
  refine st_x (v := .pointer (some ⟨bS, 0, none⟩)) rfl (x_val _ (.inl rfl) rfl) ?_; try simp only [Act.put, ppA, ppB, ppC]
  refine st_x (v := .agg (av zA)) rfl (x_bld (vals := #[]) rfl (by simp only [List.map_toArray, List.map_nil]) (bld_addr0 _)) ?_; try simp only [Act.put, ppA, ppB, ppC]
  refine st_callS (args := #[.pointer (some ⟨bS, 0, none⟩), .agg (av zA), .int .i64 5]) rfl rfl (by simp only [List.map_toArray, List.map_cons, List.map_nil]; rfl) Tryz.call8 (setNonce5 w.heap.size 0 w2 bS g cap _ _ _ hs2 hR2 hg2 rfl (by decide)) ?_
  rintro e w3 ⟨rfl, mv', FF, gp, cp, rr, hs3, hR3, hcp, hgp, hgpl, hg3, hgp3, hP3⟩
  refine ⟨_, rfl, ?_⟩
  try simp only [Act.put, ppA, ppB, ppC]
  refine st_end14 ?_
  have hT3 : Tch [] w w3 := hP3.tch hT2 (fun k hk => hk.elim (fun hf => (hs2.lt hf).1) (fun e => by rw [e]; exact hBg))
  have hE5 : upE E0 zA (5, 0) zA = (5, 0) := by simp [upE]
  have hN5 : Calls Tryz.prog 16 #[.pointer (some ⟨bS, 0, none⟩), .agg (av zA)] w3 fun e w' => e = .returned (.int .i64 5) ∧ Tch [] w3 w' := by
    have := nonce_any _ _ w3 bS _ _ _ _ _ zA hs3 zA_ok
    rw [hE5] at this
    exact this
  go_upto_region 6 with (fail)
  try simp only [Act.put, ppA, ppB, ppC]
  refine wp_region_lit ?_
  refine st_x (v := .pointer (some ⟨bS, 0, none⟩)) rfl (x_val _ (.inl rfl) rfl) ?_; try simp only [Act.put, ppA, ppB, ppC]
  refine st_x (v := .agg (av zA)) rfl (x_bld (vals := #[]) rfl (by simp only [List.map_toArray, List.map_nil]) (bld_addr0 _)) ?_; try simp only [Act.put, ppA, ppB, ppC]
  refine st_callS (args := #[.pointer (some ⟨bS, 0, none⟩), .agg (av zA)]) rfl rfl (by simp only [List.map_toArray, List.map_cons, List.map_nil]; rfl) Tryz.call16 (hN5) ?_
  rintro e w4 ⟨rfl, hT4⟩
  refine ⟨_, rfl, ?_⟩
  try simp only [Act.put, ppA, ppB, ppC]
  refine st_x (v := .int .i64 5) rfl (x_val _ (.inr rfl) rfl) ?_; try simp only [Act.put, ppA, ppB, ppC]
  refine st_end14 ?_
  have hs4 := hs3.call hT4
  have hbk := back_any w.heap.size _ w4 bS g cap gp cp rr mv' FF _ hs4 hE5 (hR3.call hT4) ((World.cell?_of_block (hT4.block gp hgpl (by simp))).trans hcp) (Nat.lt_of_lt_of_le hgpl hT4.size) hg3 hBg hcap (by decide)
  go_upto_region 7 with (fail)
  try simp only [Act.put, ppA, ppB, ppC]
  refine wp_region_lit ?_
  refine st_x (v := .pointer (some ⟨bS, 0, none⟩)) rfl (x_val _ (.inl rfl) rfl) ?_; try simp only [Act.put, ppA, ppB, ppC]
  refine st_x (v := .int .i64 1) rfl (x_val _ (.inl rfl) rfl) ?_; try simp only [Act.put, ppA, ppB, ppC]
  refine st_callS (args := #[.pointer (some ⟨bS, 0, none⟩), .int .i64 1]) rfl rfl (by simp only [List.map_toArray, List.map_cons, List.map_nil]; rfl) Tryz.call17 (hbk) ?_
  rintro e w5 ⟨rfl, hBl, F2, hs5⟩
  refine ⟨_, rfl, ?_⟩
  try simp only [Act.put, ppA, ppB, ppC]
  refine st_x (v := .bool true) rfl (x_val _ (.inr rfl) rfl) ?_; try simp only [Act.put, ppA, ppB, ppC]
  refine st_end14 ?_
  have hT5 : Tch [] w w5 := tch_of_below (by
    have h1 : Below w.heap.size w w4 := below_of_tch (hT3.trans hT4) (Nat.le_refl _)
    exact h1.trans hBl)
  have hE6 : upE (upE E0 zA (5, 0)) zA (0, 0) zA = (0, 0) := by simp [upE]
  have hN0 : Calls Tryz.prog 16 #[.pointer (some ⟨bS, 0, none⟩), .agg (av zA)] w5 fun e w' => e = .returned (.int .i64 0) ∧ Tch [] w5 w' := by
    have := nonce_any _ _ w5 bS _ _ _ _ _ zA hs5 zA_ok
    rw [hE6] at this
    exact this
  go_upto_region 8 with (fail)
  try simp only [Act.put, ppA, ppB, ppC]
  refine wp_region_lit ?_
  refine st_x (v := .bool true) rfl (x_val _ (.inl rfl) rfl) ?_; try simp only [Act.put, ppA, ppB, ppC]
  refine st_x (v := .bool true) rfl (x_val _ (.inl rfl) rfl) ?_; try simp only [Act.put, ppA, ppB, ppC]
  refine st_xw (v := .int .i64 5) rfl (x_val _ (.inl rfl) rfl) ?_; try simp only [Act.put, ppA, ppB, ppC]
  refine st_xw (v := .bool true) rfl (by kernel_rfl) ?_; try simp only [Act.put, ppA, ppB, ppC]
  refine st_x (v := .bool true) rfl (by kernel_rfl) ?_; try simp only [Act.put, ppA, ppB, ppC]
  refine st_x (v := .bool true) rfl (x_val _ (.inl rfl) rfl) ?_; try simp only [Act.put, ppA, ppB, ppC]
  refine st_xw (v := .pointer (some ⟨bS, 0, none⟩)) rfl (x_val _ (.inl rfl) rfl) ?_; try simp only [Act.put, ppA, ppB, ppC]
  refine st_xw (v := .agg (av zA)) rfl (x_bld (vals := #[]) rfl (by simp only [List.map_toArray, List.map_nil]) (bld_addr0 _)) ?_; try simp only [Act.put, ppA, ppB, ppC]
  refine st_callVw (args := #[.pointer (some ⟨bS, 0, none⟩), .agg (av zA)]) rfl rfl rfl (by simp only [List.map_toArray, List.map_cons, List.map_nil]; rfl) Tryz.call16 (hN0) ?_
  rintro e w6 ⟨rfl, hT6⟩
  refine ⟨_, rfl, ?_⟩
  try simp only [Act.put, ppA, ppB, ppC]
  refine st_xw (v := .bool true) rfl (by kernel_rfl) ?_; try simp only [Act.put, ppA, ppB, ppC]
  refine st_x (v := .bool true) rfl (by kernel_rfl) ?_; try simp only [Act.put, ppA, ppB, ppC]
  refine st_x (v := .bool true) rfl (x_val _ (.inr rfl) rfl) ?_; try simp only [Act.put, ppA, ppB, ppC]
  refine st_end14 ?_
  go_wp2
  go_ret
  exact ⟨rfl, hT5.trans hT6⟩
end
section
open Go.RowKit Go.WideMaps Go.ChangeMaps Go.MapKept
set_option maxRecDepth 100000
set_option maxHeartbeats 2000000
theorem upQ_self (E : List Nat → Ac) (A : List Nat) (q : Ac) : upQ E A q A = q := if_pos rfl
theorem upQ_upQ (E : List Nat → Ac) (A : List Nat) (q q' : Ac) : upQ (upQ E A q) A q' = upQ E A q' := by
  funext X
  unfold upQ
  by_cases h : X = A
  · rw [if_pos h, if_pos h]
  · rw [if_neg h, if_neg h, if_neg h]
def OneP (B N : Nat) (w : World) (bS : Nat) (A : List Nat) (q : Ac) : Prop := ∃ mv F, GsP B N w bS mv (.slice none 0 0) 0 F (upQ (fun _ => Ac.nil) A q)
section
variable {B N : Nat} {w w' : World} {bS : Nat} {A : List Nat} {q : Ac}
theorem OneP.call (h : OneP B N w bS A q) (hT : Tch [] w w') : OneP B N w' bS A q := by
  obtain ⟨mv, F, h⟩ := h
  exact ⟨mv, F, h.call hT⟩
theorem OneP.zero (B N : Nat) (w : World) (bS : Nat) (A : List Nat) (hB : B ≤ bS) (h : Blk w bS 46 #[.map none, .slice none 0 0, .int .i64 0]) : OneP B N w bS A Ac.nil := by
  have e : upQ (fun _ => Ac.nil) A Ac.nil = fun _ => Ac.nil := by
    funext X
    unfold upQ
    split <;> rfl
  refine ⟨.map Option.none, fun _ => Option.none, ?_⟩
  rw [e]
  exact ⟨h, hB, .inl ⟨rfl, fun _ => rfl⟩, fun A b mo _ hf => (by cases hf), fun A _ => ⟨fun _ => rfl, fun _ => rfl⟩, fun A X b mo mo' _ _ hf => (by cases hf), fun A X b b' r _ _ hf => (by cases hf), fun A b r _ hf => (by cases hf), fun A _ => Ac.ok_nil⟩
theorem OneP.step {mv : Value} {F : List Nat → Option (Nat × Value)} {M : Nat} {q' : Ac} (h1 : GsP B N w bS mv (.slice none 0 0) 0 F (upQ (fun _ => Ac.nil) A q)) (h : StepG B M bS mv F (.slice none 0 0) 0 (upQ (upQ (fun _ => Ac.nil) A q) A q') w w') : OneP B M w' bS A q' ∧ Below B w w' := by
  obtain ⟨mv', F', g1, g2, g3, g4⟩ := h
  rw [upQ_upQ] at g1
  exact ⟨⟨mv', F', g1⟩, below_of_pt g2 (fun k hk => (h1.lt hk).1) (Nat.le_trans h1.base (Nat.le_of_lt h1.blk.lt))⟩
theorem OneP.setN (h : OneP B N w bS A q) (n : Int) (hA : Ad A) (hN : N < 100000) (hn : n < 9223372036854775808) : Calls Tryz.prog 8 #[.pointer (some ⟨bS, 0, none⟩), .agg (av A), .int .i64 n] w fun e w' => e = .returned (.tuple #[]) ∧ OneP B (N + 1) w' bS A ⟨n.toNat, q.x, q.c, q.S⟩ ∧ Below B w w' := by
  obtain ⟨mv, F, h1⟩ := h
  refine (setNonceG B N w bS mv 0 F _ A n h1 hA (by omega) hn).mono fun e w' ⟨he, hs⟩ => ⟨he, OneP.step h1 ?_⟩
  rw [upQ_self] at hs
  exact hs
theorem OneP.setB (h : OneP B N w bS A q) (y : Nat) (hA : Ad A) (hN : N < 100000) (hy : y < M256) : Calls Tryz.prog 9 #[.pointer (some ⟨bS, 0, none⟩), .agg (av A), .agg (wcells y)] w fun e w' => e = .returned (.tuple #[]) ∧ OneP B (N + 1) w' bS A ⟨q.n, y, q.c, q.S⟩ ∧ Below B w w' := by
  obtain ⟨mv, F, h1⟩ := h
  refine (setBalanceG B N w bS mv 0 F _ A y h1 hA (by omega) hy).mono fun e w' ⟨he, hs⟩ => ⟨he, OneP.step h1 ?_⟩
  rw [upQ_self] at hs
  exact hs
theorem OneP.setS (h : OneP B N w bS A q) (kk v : Nat) (hA : Ad A) (hN : N < 100000) (hk : kk < M256) (hv : v < M256) : Calls Tryz.prog 10 #[.pointer (some ⟨bS, 0, none⟩), .agg (av A), .agg (wcells kk), .agg (wcells v)] w fun e w' => e = .returned (.tuple #[]) ∧ OneP B (N + 2) w' bS A ⟨q.n, q.x, q.c, upS q.S kk v⟩ ∧ Below B w w' := by
  obtain ⟨mv, F, h1⟩ := h
  refine (setSlotG B N w bS mv 0 F _ A kk v h1 hA (by omega) hk hv).mono fun e w' ⟨he, hs⟩ => ⟨he, OneP.step h1 ?_⟩
  rw [upQ_self] at hs
  exact hs
theorem OneP.setC (h : OneP B N w bS A q) (cv : Value) (c : List Nat) (hA : Ad A) (hN : N < 100000) (hc : RdB w cv c) (hb : ∀ x ∈ c, x < 256) : Calls Tryz.prog 11 #[.pointer (some ⟨bS, 0, none⟩), .agg (av A), cv] w fun e w' => e = .returned (.tuple #[]) ∧ OneP B (N + 1) w' bS A ⟨q.n, q.x, c, q.S⟩ ∧ Below B w w' := by
  obtain ⟨mv, F, h1⟩ := h
  refine (setCodeG B N w bS mv 0 F _ A cv c h1 hA (by omega) hc hb).mono fun e w' ⟨he, hs⟩ => ⟨he, OneP.step h1 ?_⟩
  rw [upQ_self] at hs
  exact hs
theorem OneP.kill (h : OneP B N w bS A q) (hA : Ad A) (hN : N < 100000) : Calls Tryz.prog 12 #[.pointer (some ⟨bS, 0, none⟩), .agg (av A)] w fun e w' => e = .returned (.tuple #[]) ∧ OneP B N w' bS A Ac.nil ∧ Below B w w' := by
  obtain ⟨mv, F, h1⟩ := h
  exact (killStG B N w bS mv 0 F _ A h1 hA (by omega)).mono fun e w' ⟨he, hs⟩ => ⟨he, OneP.step h1 hs⟩
theorem OneP.ex (h : OneP B N w bS A q) (hA : Ad A) {x : Bool} (hx : q = Ac.nil ↔ x = false) : Calls Tryz.prog 6 #[.pointer (some ⟨bS, 0, none⟩), .agg (av A)] w fun e w' => e = .returned (.bool x) ∧ Tch [] w w' := by
  obtain ⟨mv, F, h1⟩ := h
  have hn := h1.non A hA
  rw [upQ_self] at hn
  have hs : ((F A).map (·.1)).isSome = x := by
    cases hF : F A with
    | none => rw [hx.1 (hn.1 hF)]; rfl
    | some p =>
      cases x with
      | true => rfl
      | false =>
        have := hn.2 (hx.2 rfl)
        rw [hF] at this
        cases this
  have hc := existsG B N w bS mv 0 F _ A (.slice none 0 0) h1 hA
  rw [hs] at hc
  exact hc
theorem OneP.acc (h : OneP B N w bS A Ac.nil) : Calls Tryz.prog 7 #[.pointer (some ⟨bS, 0, none⟩)] w fun e w' => (∃ b, e = .returned (.slice (some ⟨b, 0, none⟩) 0 0)) ∧ Tch [] w w' := by
  obtain ⟨mv, F, h1⟩ := h
  exact accounts_none B N w bS mv _ 0 F _ h1 (fun X _ => by unfold upQ; split <;> rfl)
theorem OneP.root (h : OneP B N w bS A Ac.nil) : Calls Tryz.prog 13 #[.pointer (some ⟨bS, 0, none⟩)] w fun e w' => e = .returned (.agg (wf (hashN [128]))) ∧ Tch [] w w' := by
  obtain ⟨mv, F, h1⟩ := h
  exact rootG_none B N w bS mv _ 0 F _ h1 (fun X _ => by unfold upQ; split <;> rfl)
end
theorem nil_n (n : Int) : (⟨n.toNat, Ac.nil.x, Ac.nil.c, Ac.nil.S⟩ : Ac) = Ac.nil ↔ decide (0 < n) = false := by
  rw [decide_eq_false_iff_not]
  constructor
  · intro h
    have e : n.toNat = 0 := congrArg Ac.n h
    omega
  · intro h
    have e : n.toNat = 0 := by omega
    rw [e]; rfl
theorem nil_x (y : Nat) : (⟨Ac.nil.n, y, Ac.nil.c, Ac.nil.S⟩ : Ac) = Ac.nil ↔ (!decide (y = 0)) = false := by
  constructor
  · intro h
    have e : y = 0 := congrArg Ac.x h
    simp [e]
  · intro h
    have e : y = 0 := by simpa using h
    rw [e]; rfl
theorem nil_c (c : List Nat) : (⟨Ac.nil.n, Ac.nil.x, c, Ac.nil.S⟩ : Ac) = Ac.nil ↔ decide ((0 : Int) < (c.length : Int)) = false := by
  rw [decide_eq_false_iff_not]
  constructor
  · intro h
    have e : c = [] := congrArg Ac.c h
    simp [e]
  · intro h
    have e : c = [] := List.eq_nil_of_length_eq_zero (by omega)
    rw [e]; rfl
theorem nil_S (k v : Nat) : (⟨Ac.nil.n, Ac.nil.x, Ac.nil.c, upS Ac.nil.S k v⟩ : Ac) = Ac.nil ↔ (!decide (v = 0)) = false := by
  constructor
  · intro h
    have e : upS Ac.nil.S k v = Ac.nil.S := congrArg Ac.S h
    have e2 := congrFun e k
    have e3 : v = 0 := by simpa [upS, Ac.nil] using e2
    simp [e3]
  · intro h
    have e : v = 0 := by simpa using h
    subst e
    have e2 : upS Ac.nil.S k 0 = Ac.nil.S := by
      funext j
      unfold upS Ac.nil
      split <;> rfl
    rw [e2]
theorem upS_back (k v : Nat) : upS (upS Ac.nil.S k v) k 0 = Ac.nil.S := by
  funext j
  unfold upS Ac.nil
  split <;> rfl
theorem x_lenBy {o : Oper} {a : Act} {w : World} {p : Option Addr} {n c : Nat} (x : Operand) (ho : o.op = .call { callee := .builtin .len, args := #[x], argTypes := #[26] }) (hx : a.eval x = .slice p n c) : (execOp a.eval o).run Tryz.prog w = .ok (.value (.int .i64 (n : Int))) w := by
  have hr : ∀ ty, (Builtin.len_ #[26] ty #[.slice p n c]).run Tryz.prog w = .ok (.int .i64 (n : Int)) w := fun ty => by
    simp [Builtin.len_, run_underlying bytes_ty, goInt, Result.andThen, Builtin.lenOf]
  unfold execOp
  simp only [ho, resolve, invoke, builtin, Sem.run_bind, Sem.run_pure, Result.andThen_ok, List.map_toArray, List.map_cons, List.map_nil, hx, hr]
theorem x_lenAc {o : Oper} {a : Act} {w : World} {p : Option Addr} {n c : Nat} (x : Operand) (ho : o.op = .call { callee := .builtin .len, args := #[x], argTypes := #[31] }) (hx : a.eval x = .slice p n c) : (execOp a.eval o).run Tryz.prog w = .ok (.value (.int .i64 (n : Int))) w := by
  have hr : ∀ ty, (Builtin.len_ #[31] ty #[.slice p n c]).run Tryz.prog w = .ok (.int .i64 (n : Int)) w := fun ty => by
    simp [Builtin.len_, run_underlying acctsA_ty, goInt, Result.andThen, Builtin.lenOf]
  unfold execOp
  simp only [ho, resolve, invoke, builtin, Sem.run_bind, Sem.run_pure, Result.andThen_ok, List.map_toArray, List.map_cons, List.map_nil, hx, hr]
theorem equal_wordsT (d : Nat) {x y : Nat} (hx : x < M256) (hy : y < M256) (w : World) : (Op.equalIn (d + 2) 25 (.agg (wcells x)) (.agg (wcells y))).run Tryz.prog w = .ok (decide (x = y)) w := by
  have h := run_equalIn_bytes (P := Tryz.prog) w d 25 5 32 wordN_type byte_ty (fun w => sizeOf_u8 w) (bytesOfI 32 (byt x)) (bytesOfI 32 (byt y)) (by simp [bytesOfI]) (by simp [bytesOfI])
  rw [← bc_bytesI 32 _ (fun i _ => byt_lt x i), ← bc_bytesI 32 _ (fun i _ => byt_lt y i)] at h
  refine h.trans ?_
  congr 1
  rw [Bool.eq_iff_iff, beq_iff_eq, decide_eq_true_eq]
  exact ⟨fun e => wcells_inj hx hy (show bc 32 _ = bc 32 _ by rw [bc_bytesI 32 _ (fun i _ => byt_lt x i), bc_bytesI 32 _ (fun i _ => byt_lt y i), e]), fun e => by rw [e]⟩
theorem word_guardT (x y : Operand) (c d : Array Value) (w : World) : (eqGuard .neq 25 x y (.agg c) (.agg d)).run Tryz.prog w = .ok () w := run_eqGuard_agg w .neq _ x y c d (by kernel_rfl)
theorem x_neWc {o : Oper} {a : Act} {w : World} {x y : Nat} {r : Bool} (hx : x < M256) (hy : y < M256) (hr : decide (x = y) = r) (xo yo : Operand) (yt : TypeId) (ho : o.op = .binOp .neq 25 xo yo yt) (hxe : a.eval xo = .agg (wcells x)) (hye : a.eval yo = .agg (wcells y)) : (execOp a.eval o).run Tryz.prog w = .ok (.value (.bool (!r))) w := by
  have h := run_neq_struct (P := Tryz.prog) w 25 (wcells x) (wcells y)
  rw [equal_wordsT 9998 hx hy w, hr] at h
  unfold execOp
  simp only [ho, hxe, hye]
  show Sem.run _ _ w = _
  simp only [Sem.run_bind, word_guardT, Result.andThen_ok, h, Sem.run_pure]
theorem x_neIT {o : Oper} {a : Act} {w : World} {m n : Int} {r : Bool} (hr : (m == n) = r) (yt : TypeId) (xo yo : Operand) (ho : o.op = .binOp .neq 3 xo yo yt) (hxe : a.eval xo = .int .i64 m) (hye : a.eval yo = .int .i64 n) : (execOp a.eval o).run Tryz.prog w = .ok (.value (.bool (!r))) w := by
  unfold execOp; simp only [ho, hxe, hye]; show Sem.run _ _ w = _; simp [eqGuard, binOp, Op.intCmp, ← hr, bne]
theorem eqBool_same (m : Bool) (w : World) : (binOp .eql 4 (.bool m) (.bool m)).run Tryz.prog w = .ok (.bool true) w := by cases m <;> kernel_rfl
end
section
open Go.RowKit Go.WideMaps Go.ChangeMaps Go.MapKept
set_option maxRecDepth 100000
set_option maxHeartbeats 4000000
theorem empty_walk (A : List Nat) (n : Int) (x k v : Nat) (cv : Value) (c : List Nat) (W : World) (hA : Ad A) (hn : n < 9223372036854775808) (hx : x < M256) (hk : k < M256) (hv : v < M256) (hcA : RdA [] W cv c) :
    Calls Tryz.prog 3 #[.agg (av A), .int .i64 n, .agg (wcells x), .agg (wcells k), .agg (wcells v), cv] W fun e w' => e = .returned (.bool true) ∧ Tch [] W w' := by
  have hc0 := hcA.rdB
  have hcb := hcA.lt
  obtain ⟨p, cc, rfl, _⟩ := hcA
  have hS := St.start W
  go_enter Tryz.func3, Tryz.ntmps3
  go_upto_region 0 with (fail)
  try simp only [Act.put, ppA, ppB, ppC]
  refine wp_region_lit ?_
  refine st_box hS rfl 23 _ rfl rfl ?_; clear hS; intro w1 b1 hS; try simp only [Act.put, ppA, ppB, ppC]
  refine st_box hS rfl 25 _ rfl rfl ?_; clear hS; intro w2 b2 hS; try simp only [Act.put, ppA, ppB, ppC]
  refine st_box hS rfl 25 _ rfl rfl ?_; clear hS; intro w3 b3 hS; try simp only [Act.put, ppA, ppB, ppC]
  refine st_box hS rfl 25 _ rfl rfl ?_; clear hS; intro w4 b4 hS; try simp only [Act.put, ppA, ppB, ppC]
  refine st_x (v := .bool false) rfl (x_val _ (.inr rfl) rfl) ?_; try simp only [Act.put, ppA, ppB, ppC]
  refine st_end14 ?_
  have G1 : Blk w4 b1 23 (av A) := hS.get (.tail (.tail (.tail .head)))
  have G2 : Blk w4 b2 25 (wcells x) := hS.get (.tail (.tail .head))
  have G3 : Blk w4 b3 25 (wcells k) := hS.get (.tail .head)
  have G4 : Blk w4 b4 25 (wcells v) := hS.get .head
  have F1 : ∀ u, Below w4.heap.size w4 u → Blk u b1 23 (av A) := fun u hu => below_blk hu G1 G1.lt
  have F2 : ∀ u, Below w4.heap.size w4 u → Blk u b2 25 (wcells x) := fun u hu => below_blk hu G2 G2.lt
  have F3 : ∀ u, Below w4.heap.size w4 u → Blk u b3 25 (wcells k) := fun u hu => below_blk hu G3 G3.lt
  have F4 : ∀ u, Below w4.heap.size w4 u → Blk u b4 25 (wcells v) := fun u hu => below_blk hu G4 G4.lt
  have hW4 : Tch [] W w4 := hS.frame
  have hc4 := hc0.tch hW4 (by simp)
  have hcu : ∀ u, Below w4.heap.size w4 u → RdB u (.slice p c.length cc) c := fun u hu => hc4.tch (tch_of_below hu) (by simp)
  clear hS G1 G2 G3 G4 hc0 hc4
  go_upto_region 1 with (fail)
  try simp only [Act.put, ppA, ppB, ppC]
  refine wp_region_lit ?_
  refine st_callS (args := #[]) rfl rfl (by simp only [List.map_toArray, List.map_nil]) Tryz.call4 (alive_any w4) ?_
  rintro e w5 ⟨rfl, hT5⟩
  refine ⟨_, rfl, ?_⟩
  try simp only [Act.put, ppA, ppB, ppC]
  refine st_x (v := .bool true) rfl (x_val _ (.inr rfl) rfl) ?_; try simp only [Act.put, ppA, ppB, ppC]
  refine st_end14 ?_
  have B5 : Below w4.heap.size w4 w5 := below_of_tch hT5 (Nat.le_refl _)
  clear hT5
  go_upto_region 2 with (fail)
  try simp only [Act.put, ppA, ppB, ppC]
  refine wp_region_lit ?_
  refine st_x (v := .bool true) rfl (x_val _ (.inl rfl) rfl) ?_; try simp only [Act.put, ppA, ppB, ppC]
  refine st_x (v := .bool (!true)) rfl (x_not _ _ rfl rfl) ?_; try simp only [Act.put, ppA, ppB, ppC]
  refine st_x (v := .bool false) rfl (x_val _ (.inl rfl) rfl) ?_; try simp only [Act.put, ppA, ppB, ppC]
  refine st_xw (v := .slice p c.length cc) rfl (x_val _ (.inl rfl) rfl) ?_; try simp only [Act.put, ppA, ppB, ppC]
  refine st_xw (v := .int .i64 (c.length : Int)) rfl (x_lenBy _ rfl rfl) ?_; try simp only [Act.put, ppA, ppB, ppC]
  by_cases hl : (1000 : Int) < (c.length : Int)
  · have hd : decide ((1000 : Int) < (c.length : Int)) = true := decide_eq_true hl
    clear hl
    refine st_xw (v := .bool true) rfl (x_gtrI hd _ _ _ _ rfl rfl rfl) ?_; try simp only [Act.put, ppA, ppB, ppC]
    refine st_x (v := .bool true) rfl (x_pickS (c := false) rfl _ _ _ rfl rfl rfl rfl) ?_; try simp only [Act.put, ppA, ppB, ppC]
    refine st_end14 ?_
    go_upto_region 3 with (fail)
    try simp only [Act.put, ppA, ppB, ppC]
    refine wp_region_lit ?_
    refine st_x (v := .bool true) rfl (x_val _ (.inl rfl) rfl) ?_; try simp only [Act.put, ppA, ppB, ppC]
    refine st_x (v := .bool true) rfl (x_val _ (.inr rfl) rfl) ?_; try simp only [Act.put, ppA, ppB, ppC]
    refine st_end14 ?_
    go_wp2
    go_ret
    exact ⟨rfl, hW4.trans (tch_of_below B5)⟩
  · have hd : decide ((1000 : Int) < (c.length : Int)) = false := decide_eq_false hl
    clear hl
    refine st_xw (v := .bool false) rfl (x_gtrI hd _ _ _ _ rfl rfl rfl) ?_; try simp only [Act.put, ppA, ppB, ppC]
    refine st_x (v := .bool false) rfl (x_pickS (c := false) rfl _ _ _ rfl rfl rfl rfl) ?_; try simp only [Act.put, ppA, ppB, ppC]
    refine st_end14 ?_
    clear hd
    go_upto_region 4 with (fail)
    try simp only [Act.put, ppA, ppB, ppC]
    refine wp_region_lit ?_
    refine st_callS (args := #[.slice none 0 0]) rfl rfl (by simp only [List.map_toArray, List.map_cons, List.map_nil]; rfl) Tryz.call5 (new_nil w5) ?_
    rintro e w6 ⟨bS, rfl, hbS, hT6, hB6⟩
    refine ⟨_, rfl, ?_⟩
    try simp only [Act.put, ppA, ppB, ppC]
    refine st_x (v := .pointer (some ⟨bS, 0, none⟩)) rfl (x_val _ (.inr rfl) rfl) ?_; try simp only [Act.put, ppA, ppB, ppC]
    refine st_end14 ?_
    have B6 : Below w4.heap.size w4 w6 := B5.trans (below_of_tch hT6 B5.size)
    have O6 := OneP.zero w4.heap.size 0 w6 bS A (Nat.le_trans B5.size hbS) hB6
    clear hB6 hT6 hbS
    go_upto_region 5 with (fail)
    try simp only [Act.put, ppA, ppB, ppC]
    refine wp_region_lit ?_
    refine st_x (v := .pointer (some ⟨bS, 0, none⟩)) rfl (x_val _ (.inl rfl) rfl) ?_; try simp only [Act.put, ppA, ppB, ppC]
    refine st_x (v := .agg (av A)) rfl (x_ld _ rfl rfl (F1 _ B6) addr_tyY rfl (by rw [arrV_size]; exact addr_sizeY)) ?_; try simp only [Act.put, ppA, ppB, ppC]
    refine st_callS (args := #[.pointer (some ⟨bS, 0, none⟩), .agg (av A)]) rfl rfl (by simp only [List.map_toArray, List.map_cons, List.map_nil]; rfl) Tryz.call6 (O6.ex hA (x := false) ⟨fun _ => rfl, fun _ => rfl⟩) ?_
    rintro e w7 ⟨rfl, hT7⟩
    refine ⟨_, rfl, ?_⟩
    try simp only [Act.put, ppA, ppB, ppC]
    have B7 : Below w4.heap.size w4 w7 := B6.trans (below_of_tch hT7 B6.size)
    have O7 := O6.call hT7
    clear hT7
    refine st_x (v := .bool false) rfl (x_val _ (.inl rfl) rfl) ?_; try simp only [Act.put, ppA, ppB, ppC]
    refine st_xw (v := .pointer (some ⟨bS, 0, none⟩)) rfl (x_val _ (.inl rfl) rfl) ?_; try simp only [Act.put, ppA, ppB, ppC]
    refine st_callVw (args := #[.pointer (some ⟨bS, 0, none⟩)]) rfl rfl rfl (by simp only [List.map_toArray, List.map_cons, List.map_nil]; rfl) Tryz.call7 (O7.acc) ?_
    rintro e w8 ⟨⟨bA, rfl⟩, hT8⟩
    refine ⟨_, rfl, ?_⟩
    try simp only [Act.put, ppA, ppB, ppC]
    have B8 : Below w4.heap.size w4 w8 := B7.trans (below_of_tch hT8 B7.size)
    have O8 := O7.call hT8
    clear hT8
    refine st_xw (v := .int .i64 0) rfl (x_lenAc _ rfl rfl) ?_; try simp only [Act.put, ppA, ppB, ppC]
    refine st_xw (v := .bool (!true)) rfl (x_neIT (r := true) rfl _ _ _ rfl rfl rfl) ?_; try simp only [Act.put, ppA, ppB, ppC]
    refine st_x (v := .bool false) rfl (x_pickS (c := false) rfl _ _ _ rfl rfl rfl rfl) ?_; try simp only [Act.put, ppA, ppB, ppC]
    refine st_end14 ?_
    go_upto_region 7 with (fail)
    try simp only [Act.put, ppA, ppB, ppC]
    refine wp_region_lit ?_
    refine st_x (v := .pointer (some ⟨bS, 0, none⟩)) rfl (x_val _ (.inl rfl) rfl) ?_; try simp only [Act.put, ppA, ppB, ppC]
    refine st_x (v := .agg (av A)) rfl (x_ld _ rfl rfl (F1 _ B8) addr_tyY rfl (by rw [arrV_size]; exact addr_sizeY)) ?_; try simp only [Act.put, ppA, ppB, ppC]
    refine st_x (v := .int .i64 n) rfl (x_val _ (.inl rfl) rfl) ?_; try simp only [Act.put, ppA, ppB, ppC]
    refine st_callS (args := #[.pointer (some ⟨bS, 0, none⟩), .agg (av A), .int .i64 n]) rfl rfl (by simp only [List.map_toArray, List.map_cons, List.map_nil]; rfl) Tryz.call8 (O8.setN n hA (by decide) hn) ?_
    rintro e w9 ⟨rfl, O9, hb9⟩
    refine ⟨_, rfl, ?_⟩
    try simp only [Act.put, ppA, ppB, ppC]
    refine st_end14 ?_
    have B9 := B8.trans hb9
    clear hb9
    go_upto_region 8 with (fail)
    try simp only [Act.put, ppA, ppB, ppC]
    refine wp_region_lit ?_
    refine st_x (v := .pointer (some ⟨bS, 0, none⟩)) rfl (x_val _ (.inl rfl) rfl) ?_; try simp only [Act.put, ppA, ppB, ppC]
    refine st_x (v := .agg (av A)) rfl (x_ld _ rfl rfl (F1 _ B9) addr_tyY rfl (by rw [arrV_size]; exact addr_sizeY)) ?_; try simp only [Act.put, ppA, ppB, ppC]
    refine st_callS (args := #[.pointer (some ⟨bS, 0, none⟩), .agg (av A)]) rfl rfl (by simp only [List.map_toArray, List.map_cons, List.map_nil]; rfl) Tryz.call6 (O9.ex hA (x := decide (0 < n)) (nil_n n)) ?_
    rintro e w10 ⟨rfl, hT10⟩
    refine ⟨_, rfl, ?_⟩
    try simp only [Act.put, ppA, ppB, ppC]
    have B10 : Below w4.heap.size w4 w10 := B9.trans (below_of_tch hT10 B9.size)
    have O10 := O9.call hT10
    clear hT10
    refine st_x (v := .bool (decide (0 < n))) rfl (x_val _ (.inr rfl) rfl) ?_; try simp only [Act.put, ppA, ppB, ppC]
    refine st_end14 ?_
    go_upto_region 9 with (fail)
    try simp only [Act.put, ppA, ppB, ppC]
    refine wp_region_lit ?_
    refine st_x (v := .pointer (some ⟨bS, 0, none⟩)) rfl (x_val _ (.inl rfl) rfl) ?_; try simp only [Act.put, ppA, ppB, ppC]
    refine st_x (v := .agg (av A)) rfl (x_ld _ rfl rfl (F1 _ B10) addr_tyY rfl (by rw [arrV_size]; exact addr_sizeY)) ?_; try simp only [Act.put, ppA, ppB, ppC]
    refine st_callS (args := #[.pointer (some ⟨bS, 0, none⟩), .agg (av A), .int .i64 0]) rfl rfl (by simp only [List.map_toArray, List.map_cons, List.map_nil]; rfl) Tryz.call8 (O10.setN 0 hA (by decide) (by decide)) ?_
    rintro e w11 ⟨rfl, O11, hb11⟩
    refine ⟨_, rfl, ?_⟩
    try simp only [Act.put, ppA, ppB, ppC]
    refine st_end14 ?_
    have B11 := B10.trans hb11
    clear hb11
    replace O11 : OneP _ _ w11 bS A Ac.nil := O11
    go_upto_region 10 with (fail)
    try simp only [Act.put, ppA, ppB, ppC]
    refine wp_region_lit ?_
    refine st_x (v := .pointer (some ⟨bS, 0, none⟩)) rfl (x_val _ (.inl rfl) rfl) ?_; try simp only [Act.put, ppA, ppB, ppC]
    refine st_x (v := .agg (av A)) rfl (x_ld _ rfl rfl (F1 _ B11) addr_tyY rfl (by rw [arrV_size]; exact addr_sizeY)) ?_; try simp only [Act.put, ppA, ppB, ppC]
    refine st_x (v := .agg (wcells x)) rfl (x_ld _ rfl rfl (F2 _ B11) wordN_type rfl (by rw [wc_size]; exact wordN_size)) ?_; try simp only [Act.put, ppA, ppB, ppC]
    refine st_callS (args := #[.pointer (some ⟨bS, 0, none⟩), .agg (av A), .agg (wcells x)]) rfl rfl (by simp only [List.map_toArray, List.map_cons, List.map_nil]; rfl) Tryz.call9 (O11.setB x hA (by decide) hx) ?_
    rintro e w12 ⟨rfl, O12, hb12⟩
    refine ⟨_, rfl, ?_⟩
    try simp only [Act.put, ppA, ppB, ppC]
    refine st_end14 ?_
    have B12 := B11.trans hb12
    clear hb12
    go_upto_region 11 with (fail)
    try simp only [Act.put, ppA, ppB, ppC]
    refine wp_region_lit ?_
    refine st_x (v := .pointer (some ⟨bS, 0, none⟩)) rfl (x_val _ (.inl rfl) rfl) ?_; try simp only [Act.put, ppA, ppB, ppC]
    refine st_x (v := .agg (av A)) rfl (x_ld _ rfl rfl (F1 _ B12) addr_tyY rfl (by rw [arrV_size]; exact addr_sizeY)) ?_; try simp only [Act.put, ppA, ppB, ppC]
    refine st_callS (args := #[.pointer (some ⟨bS, 0, none⟩), .agg (av A)]) rfl rfl (by simp only [List.map_toArray, List.map_cons, List.map_nil]; rfl) Tryz.call6 (O12.ex hA (x := !decide (x = 0)) (nil_x x)) ?_
    rintro e w13 ⟨rfl, hT13⟩
    refine ⟨_, rfl, ?_⟩
    try simp only [Act.put, ppA, ppB, ppC]
    have B13 : Below w4.heap.size w4 w13 := B12.trans (below_of_tch hT13 B12.size)
    have O13 := O12.call hT13
    clear hT13
    refine st_x (v := .bool (!decide (x = 0))) rfl (x_val _ (.inr rfl) rfl) ?_; try simp only [Act.put, ppA, ppB, ppC]
    refine st_end14 ?_
    go_upto_region 12 with (fail)
    try simp only [Act.put, ppA, ppB, ppC]
    refine wp_region_lit ?_
    refine st_x (v := .pointer (some ⟨bS, 0, none⟩)) rfl (x_val _ (.inl rfl) rfl) ?_; try simp only [Act.put, ppA, ppB, ppC]
    refine st_x (v := .agg (av A)) rfl (x_ld _ rfl rfl (F1 _ B13) addr_tyY rfl (by rw [arrV_size]; exact addr_sizeY)) ?_; try simp only [Act.put, ppA, ppB, ppC]
    refine st_x (v := .agg (wcells 0)) rfl (x_bldW0 rfl) ?_; try simp only [Act.put, ppA, ppB, ppC]
    refine st_callS (args := #[.pointer (some ⟨bS, 0, none⟩), .agg (av A), .agg (wcells 0)]) rfl rfl (by simp only [List.map_toArray, List.map_cons, List.map_nil]; rfl) Tryz.call9 (O13.setB 0 hA (by decide) (by decide)) ?_
    rintro e w14 ⟨rfl, O14, hb14⟩
    refine ⟨_, rfl, ?_⟩
    try simp only [Act.put, ppA, ppB, ppC]
    refine st_end14 ?_
    have B14 := B13.trans hb14
    clear hb14
    replace O14 : OneP _ _ w14 bS A Ac.nil := O14
    go_upto_region 13 with (fail)
    try simp only [Act.put, ppA, ppB, ppC]
    refine wp_region_lit ?_
    refine st_x (v := .pointer (some ⟨bS, 0, none⟩)) rfl (x_val _ (.inl rfl) rfl) ?_; try simp only [Act.put, ppA, ppB, ppC]
    refine st_x (v := .agg (av A)) rfl (x_ld _ rfl rfl (F1 _ B14) addr_tyY rfl (by rw [arrV_size]; exact addr_sizeY)) ?_; try simp only [Act.put, ppA, ppB, ppC]
    refine st_x (v := .agg (wcells k)) rfl (x_ld _ rfl rfl (F3 _ B14) wordN_type rfl (by rw [wc_size]; exact wordN_size)) ?_; try simp only [Act.put, ppA, ppB, ppC]
    refine st_x (v := .agg (wcells v)) rfl (x_ld _ rfl rfl (F4 _ B14) wordN_type rfl (by rw [wc_size]; exact wordN_size)) ?_; try simp only [Act.put, ppA, ppB, ppC]
    refine st_callS (args := #[.pointer (some ⟨bS, 0, none⟩), .agg (av A), .agg (wcells k), .agg (wcells v)]) rfl rfl (by simp only [List.map_toArray, List.map_cons, List.map_nil]; rfl) Tryz.call10 (O14.setS k v hA (by decide) hk hv) ?_
    rintro e w15 ⟨rfl, O15, hb15⟩
    refine ⟨_, rfl, ?_⟩
    try simp only [Act.put, ppA, ppB, ppC]
    refine st_end14 ?_
    have B15 := B14.trans hb15
    clear hb15
    go_upto_region 14 with (fail)
    try simp only [Act.put, ppA, ppB, ppC]
    refine wp_region_lit ?_
    refine st_x (v := .pointer (some ⟨bS, 0, none⟩)) rfl (x_val _ (.inl rfl) rfl) ?_; try simp only [Act.put, ppA, ppB, ppC]
    refine st_x (v := .agg (av A)) rfl (x_ld _ rfl rfl (F1 _ B15) addr_tyY rfl (by rw [arrV_size]; exact addr_sizeY)) ?_; try simp only [Act.put, ppA, ppB, ppC]
    refine st_callS (args := #[.pointer (some ⟨bS, 0, none⟩), .agg (av A)]) rfl rfl (by simp only [List.map_toArray, List.map_cons, List.map_nil]; rfl) Tryz.call6 (O15.ex hA (x := !decide (v = 0)) (nil_S k v)) ?_
    rintro e w16 ⟨rfl, hT16⟩
    refine ⟨_, rfl, ?_⟩
    try simp only [Act.put, ppA, ppB, ppC]
    have B16 : Below w4.heap.size w4 w16 := B15.trans (below_of_tch hT16 B15.size)
    have O16 := O15.call hT16
    clear hT16
    refine st_x (v := .bool (!decide (v = 0))) rfl (x_val _ (.inr rfl) rfl) ?_; try simp only [Act.put, ppA, ppB, ppC]
    refine st_end14 ?_
    go_upto_region 15 with (fail)
    try simp only [Act.put, ppA, ppB, ppC]
    refine wp_region_lit ?_
    refine st_x (v := .pointer (some ⟨bS, 0, none⟩)) rfl (x_val _ (.inl rfl) rfl) ?_; try simp only [Act.put, ppA, ppB, ppC]
    refine st_x (v := .agg (av A)) rfl (x_ld _ rfl rfl (F1 _ B16) addr_tyY rfl (by rw [arrV_size]; exact addr_sizeY)) ?_; try simp only [Act.put, ppA, ppB, ppC]
    refine st_x (v := .agg (wcells k)) rfl (x_ld _ rfl rfl (F3 _ B16) wordN_type rfl (by rw [wc_size]; exact wordN_size)) ?_; try simp only [Act.put, ppA, ppB, ppC]
    refine st_x (v := .agg (wcells 0)) rfl (x_bldW0 rfl) ?_; try simp only [Act.put, ppA, ppB, ppC]
    refine st_callS (args := #[.pointer (some ⟨bS, 0, none⟩), .agg (av A), .agg (wcells k), .agg (wcells 0)]) rfl rfl (by simp only [List.map_toArray, List.map_cons, List.map_nil]; rfl) Tryz.call10 (O16.setS k 0 hA (by decide) hk (by decide)) ?_
    rintro e w17 ⟨rfl, O17, hb17⟩
    refine ⟨_, rfl, ?_⟩
    try simp only [Act.put, ppA, ppB, ppC]
    refine st_end14 ?_
    have B17 := B16.trans hb17
    clear hb17
    replace O17 : OneP _ _ w17 bS A ⟨Ac.nil.n, Ac.nil.x, Ac.nil.c, upS (upS Ac.nil.S k v) k 0⟩ := O17
    rw [upS_back k v] at O17
    replace O17 : OneP _ _ w17 bS A Ac.nil := O17
    go_upto_region 16 with (fail)
    try simp only [Act.put, ppA, ppB, ppC]
    refine wp_region_lit ?_
    refine st_x (v := .pointer (some ⟨bS, 0, none⟩)) rfl (x_val _ (.inl rfl) rfl) ?_; try simp only [Act.put, ppA, ppB, ppC]
    refine st_x (v := .agg (av A)) rfl (x_ld _ rfl rfl (F1 _ B17) addr_tyY rfl (by rw [arrV_size]; exact addr_sizeY)) ?_; try simp only [Act.put, ppA, ppB, ppC]
    refine st_x (v := .slice p c.length cc) rfl (x_val _ (.inl rfl) rfl) ?_; try simp only [Act.put, ppA, ppB, ppC]
    refine st_callS (args := #[.pointer (some ⟨bS, 0, none⟩), .agg (av A), .slice p c.length cc]) rfl rfl (by simp only [List.map_toArray, List.map_cons, List.map_nil]; rfl) Tryz.call11 (O17.setC _ c hA (by decide) (hcu _ B17) hcb) ?_
    rintro e w18 ⟨rfl, O18, hb18⟩
    refine ⟨_, rfl, ?_⟩
    try simp only [Act.put, ppA, ppB, ppC]
    refine st_end14 ?_
    have B18 := B17.trans hb18
    clear hb18
    go_upto_region 17 with (fail)
    try simp only [Act.put, ppA, ppB, ppC]
    refine wp_region_lit ?_
    refine st_x (v := .pointer (some ⟨bS, 0, none⟩)) rfl (x_val _ (.inl rfl) rfl) ?_; try simp only [Act.put, ppA, ppB, ppC]
    refine st_x (v := .agg (av A)) rfl (x_ld _ rfl rfl (F1 _ B18) addr_tyY rfl (by rw [arrV_size]; exact addr_sizeY)) ?_; try simp only [Act.put, ppA, ppB, ppC]
    refine st_callS (args := #[.pointer (some ⟨bS, 0, none⟩), .agg (av A)]) rfl rfl (by simp only [List.map_toArray, List.map_cons, List.map_nil]; rfl) Tryz.call6 (O18.ex hA (x := decide ((0 : Int) < (c.length : Int))) (nil_c c)) ?_
    rintro e w19 ⟨rfl, hT19⟩
    refine ⟨_, rfl, ?_⟩
    try simp only [Act.put, ppA, ppB, ppC]
    have B19 : Below w4.heap.size w4 w19 := B18.trans (below_of_tch hT19 B18.size)
    have O19 := O18.call hT19
    clear hT19
    refine st_x (v := .bool (decide ((0 : Int) < (c.length : Int)))) rfl (x_val _ (.inr rfl) rfl) ?_; try simp only [Act.put, ppA, ppB, ppC]
    refine st_end14 ?_
    go_upto_region 18 with (fail)
    try simp only [Act.put, ppA, ppB, ppC]
    refine wp_region_lit ?_
    refine st_x (v := .pointer (some ⟨bS, 0, none⟩)) rfl (x_val _ (.inl rfl) rfl) ?_; try simp only [Act.put, ppA, ppB, ppC]
    refine st_x (v := .agg (av A)) rfl (x_ld _ rfl rfl (F1 _ B19) addr_tyY rfl (by rw [arrV_size]; exact addr_sizeY)) ?_; try simp only [Act.put, ppA, ppB, ppC]
    refine st_callS (args := #[.pointer (some ⟨bS, 0, none⟩), .agg (av A)]) rfl rfl (by simp only [List.map_toArray, List.map_cons, List.map_nil]; rfl) Tryz.call12 (O19.kill hA (by decide)) ?_
    rintro e w20 ⟨rfl, O20, hb20⟩
    refine ⟨_, rfl, ?_⟩
    try simp only [Act.put, ppA, ppB, ppC]
    refine st_end14 ?_
    have B20 := B19.trans hb20
    clear hb20
    go_upto_region 19 with (fail)
    try simp only [Act.put, ppA, ppB, ppC]
    refine wp_region_lit ?_
    refine st_x (v := .bool (decide (0 < n))) rfl (x_val _ (.inl rfl) rfl) ?_; try simp only [Act.put, ppA, ppB, ppC]
    refine st_x (v := .int .i64 n) rfl (x_val _ (.inl rfl) rfl) ?_; try simp only [Act.put, ppA, ppB, ppC]
    refine st_x (v := .bool (decide (0 < n))) rfl (x_gtrI rfl _ _ _ _ rfl rfl rfl) ?_; try simp only [Act.put, ppA, ppB, ppC]
    refine st_x (v := .bool true) rfl (x_bin _ _ _ _ rfl rfl rfl rfl (eqBool_same _ _)) ?_; try simp only [Act.put, ppA, ppB, ppC]
    refine st_x (v := .bool true) rfl (x_val _ (.inl rfl) rfl) ?_; try simp only [Act.put, ppA, ppB, ppC]
    refine st_xw (v := .bool (!decide (x = 0))) rfl (x_val _ (.inl rfl) rfl) ?_; try simp only [Act.put, ppA, ppB, ppC]
    refine st_xw (v := .agg (wcells x)) rfl (x_ld _ rfl rfl (F2 _ B20) wordN_type rfl (by rw [wc_size]; exact wordN_size)) ?_; try simp only [Act.put, ppA, ppB, ppC]
    refine st_xw (v := .agg (wcells 0)) rfl (x_bldW0 rfl) ?_; try simp only [Act.put, ppA, ppB, ppC]
    refine st_xw (v := .bool (!decide (x = 0))) rfl (x_neWc hx (by decide) rfl _ _ _ rfl rfl rfl) ?_; try simp only [Act.put, ppA, ppB, ppC]
    refine st_xw (v := .bool true) rfl (x_bin _ _ _ _ rfl rfl rfl rfl (eqBool_same _ _)) ?_; try simp only [Act.put, ppA, ppB, ppC]
    refine st_x (v := .bool true) rfl (x_pickS (c := true) rfl _ _ _ rfl rfl rfl rfl) ?_; try simp only [Act.put, ppA, ppB, ppC]
    refine st_x (v := .bool true) rfl (x_val _ (.inl rfl) rfl) ?_; try simp only [Act.put, ppA, ppB, ppC]
    refine st_xw (v := .bool (!decide (v = 0))) rfl (x_val _ (.inl rfl) rfl) ?_; try simp only [Act.put, ppA, ppB, ppC]
    refine st_xw (v := .agg (wcells v)) rfl (x_ld _ rfl rfl (F4 _ B20) wordN_type rfl (by rw [wc_size]; exact wordN_size)) ?_; try simp only [Act.put, ppA, ppB, ppC]
    refine st_xw (v := .agg (wcells 0)) rfl (x_bldW0 rfl) ?_; try simp only [Act.put, ppA, ppB, ppC]
    refine st_xw (v := .bool (!decide (v = 0))) rfl (x_neWc hv (by decide) rfl _ _ _ rfl rfl rfl) ?_; try simp only [Act.put, ppA, ppB, ppC]
    refine st_xw (v := .bool true) rfl (x_bin _ _ _ _ rfl rfl rfl rfl (eqBool_same _ _)) ?_; try simp only [Act.put, ppA, ppB, ppC]
    refine st_x (v := .bool true) rfl (x_pickS (c := true) rfl _ _ _ rfl rfl rfl rfl) ?_; try simp only [Act.put, ppA, ppB, ppC]
    refine st_x (v := .bool true) rfl (x_val _ (.inl rfl) rfl) ?_; try simp only [Act.put, ppA, ppB, ppC]
    refine st_xw (v := .bool (decide ((0 : Int) < (c.length : Int)))) rfl (x_val _ (.inl rfl) rfl) ?_; try simp only [Act.put, ppA, ppB, ppC]
    refine st_xw (v := .slice p c.length cc) rfl (x_val _ (.inl rfl) rfl) ?_; try simp only [Act.put, ppA, ppB, ppC]
    refine st_xw (v := .int .i64 (c.length : Int)) rfl (x_lenBy _ rfl rfl) ?_; try simp only [Act.put, ppA, ppB, ppC]
    refine st_xw (v := .bool (decide ((0 : Int) < (c.length : Int)))) rfl (x_gtrI rfl _ _ _ _ rfl rfl rfl) ?_; try simp only [Act.put, ppA, ppB, ppC]
    refine st_xw (v := .bool true) rfl (x_bin _ _ _ _ rfl rfl rfl rfl (eqBool_same _ _)) ?_; try simp only [Act.put, ppA, ppB, ppC]
    refine st_x (v := .bool true) rfl (x_pickS (c := true) rfl _ _ _ rfl rfl rfl rfl) ?_; try simp only [Act.put, ppA, ppB, ppC]
    refine st_x (v := .bool true) rfl (x_val _ (.inl rfl) rfl) ?_; try simp only [Act.put, ppA, ppB, ppC]
    refine st_xw (v := .pointer (some ⟨bS, 0, none⟩)) rfl (x_val _ (.inl rfl) rfl) ?_; try simp only [Act.put, ppA, ppB, ppC]
    refine st_xw (v := .agg (av A)) rfl (x_ld _ rfl rfl (F1 _ B20) addr_tyY rfl (by rw [arrV_size]; exact addr_sizeY)) ?_; try simp only [Act.put, ppA, ppB, ppC]
    refine st_callVw (args := #[.pointer (some ⟨bS, 0, none⟩), .agg (av A)]) rfl rfl rfl (by simp only [List.map_toArray, List.map_cons, List.map_nil]; rfl) Tryz.call6 (O20.ex hA (x := false) ⟨fun _ => rfl, fun _ => rfl⟩) ?_
    rintro e w21 ⟨rfl, hT21⟩
    refine ⟨_, rfl, ?_⟩
    try simp only [Act.put, ppA, ppB, ppC]
    have B21 : Below w4.heap.size w4 w21 := B20.trans (below_of_tch hT21 B20.size)
    have O21 := O20.call hT21
    clear hT21
    refine st_xw (v := .bool (!false)) rfl (x_not _ _ rfl rfl) ?_; try simp only [Act.put, ppA, ppB, ppC]
    refine st_x (v := .bool true) rfl (x_pickS (c := true) rfl _ _ _ rfl rfl rfl rfl) ?_; try simp only [Act.put, ppA, ppB, ppC]
    refine st_x (v := .bool true) rfl (x_val _ (.inl rfl) rfl) ?_; try simp only [Act.put, ppA, ppB, ppC]
    refine st_xw (v := .pointer (some ⟨bS, 0, none⟩)) rfl (x_val _ (.inl rfl) rfl) ?_; try simp only [Act.put, ppA, ppB, ppC]
    refine st_callVw (args := #[.pointer (some ⟨bS, 0, none⟩)]) rfl rfl rfl (by simp only [List.map_toArray, List.map_cons, List.map_nil]; rfl) Tryz.call7 (O21.acc) ?_
    rintro e w22 ⟨⟨bB, rfl⟩, hT22⟩
    refine ⟨_, rfl, ?_⟩
    try simp only [Act.put, ppA, ppB, ppC]
    have B22 : Below w4.heap.size w4 w22 := B21.trans (below_of_tch hT22 B21.size)
    have O22 := O21.call hT22
    clear hT22
    refine st_xw (v := .int .i64 0) rfl (x_lenAc _ rfl rfl) ?_; try simp only [Act.put, ppA, ppB, ppC]
    refine st_xw (v := .bool true) rfl (x_eqI rfl _ _ _ rfl rfl rfl) ?_; try simp only [Act.put, ppA, ppB, ppC]
    refine st_x (v := .bool true) rfl (x_pickS (c := true) rfl _ _ _ rfl rfl rfl rfl) ?_; try simp only [Act.put, ppA, ppB, ppC]
    refine st_x (v := .bool true) rfl (x_val _ (.inl rfl) rfl) ?_; try simp only [Act.put, ppA, ppB, ppC]
    refine st_xw (v := .pointer (some ⟨bS, 0, none⟩)) rfl (x_val _ (.inl rfl) rfl) ?_; try simp only [Act.put, ppA, ppB, ppC]
    refine st_callVw (args := #[.pointer (some ⟨bS, 0, none⟩)]) rfl rfl rfl (by simp only [List.map_toArray, List.map_cons, List.map_nil]; rfl) Tryz.call13 (O22.root) ?_
    rintro e w23 ⟨rfl, hT23⟩
    refine ⟨_, rfl, ?_⟩
    try simp only [Act.put, ppA, ppB, ppC]
    have B23 : Below w4.heap.size w4 w23 := B22.trans (below_of_tch hT23 B22.size)
    have O23 := O22.call hT23
    clear hT23
    refine st_callVw (args := #[]) rfl rfl rfl (by simp only [List.map_toArray, List.map_nil]) Tryz.call14 (rempty_any _) ?_
    rintro e w24 ⟨rfl, hT24⟩
    refine ⟨_, rfl, ?_⟩
    try simp only [Act.put, ppA, ppB, ppC]
    have B24 : Below w4.heap.size w4 w24 := B23.trans (below_of_tch hT24 B23.size)
    have O24 := O23.call hT24
    clear hT24
    refine st_xw (v := .bool true) rfl (x_hash _ _ _ rfl rfl rfl) ?_; try simp only [Act.put, ppA, ppB, ppC]
    refine st_x (v := .bool true) rfl (x_pickS (c := true) rfl _ _ _ rfl rfl rfl rfl) ?_; try simp only [Act.put, ppA, ppB, ppC]
    refine st_x (v := .bool true) rfl (x_val _ (.inr rfl) rfl) ?_; try simp only [Act.put, ppA, ppB, ppC]
    refine st_end14 ?_
    go_wp2
    go_ret
    exact ⟨rfl, hW4.trans (tch_of_below B24)⟩
end
end Go.Proofs.YtopfmaoeebgjmaaGreatDoor
