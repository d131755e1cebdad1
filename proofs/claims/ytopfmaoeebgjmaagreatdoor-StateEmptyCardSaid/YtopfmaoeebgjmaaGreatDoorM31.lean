/- Whole states: change at no record, SetNonce, SetBalance. -/
import Derived.Test.YtopfmaoeebgjmaaGreatDoorM01
import Derived.Test.YtopfmaoeebgjmaaGreatDoorM30
set_option linter.unusedVariables false
set_option linter.unusedSimpArgs false
namespace Go.Proofs.YtopfmaoeebgjmaaGreatDoor
section
open Go.RowKit Go.WideMaps Go.ChangeMaps Go.MapKept
set_option maxRecDepth 100000
set_option maxHeartbeats 2000000
theorem StepG.ofStrike {B N : Nat} {w w' : World} {bS : Nat} {mv rv : Value} {k : Int} {F : List Nat → Option (Nat × Value)} {E : List Nat → Ac} {A : List Nat} (h : GsP B N w' bS mv rv k (upG F A none) (upQ E A Ac.nil)) (hP : PT (fun j => mv = .map (some j)) w w') : StepG B N bS mv F rv k (upQ E A Ac.nil) w w' :=
  ⟨mv, _, h, hP.mono (fun j _ hj => .inr (.inl hj)), fun j hj => by
    rcases hj with e | e | ⟨X, b, m, hX, hf, e⟩
    · exact .inl (.inl e)
    · exact .inl (.inr (.inl e))
    · unfold upG at hf
      by_cases e2 : X = A
      · rw [if_pos e2] at hf; cases hf
      · rw [if_neg e2] at hf; exact .inl (.inr (.inr ⟨X, b, m, hX, hf, e⟩)), fun _ => rfl⟩
theorem changeG0 (B M : Nat) (w : World) (bS : Nat) (mv P P' : Value) (k : Int) (F : List Nat → Option (Nat × Value)) (E' : List Nat → Ac)
    (hc : Calls Tryz.prog 33 #[.pointer (some ⟨bS, 0, none⟩), P] w fun e w' => e = .returned P' ∧ StepG B M bS mv F (.slice none 0 0) k E' w w') :
    Calls Tryz.prog 24 #[.pointer (some ⟨bS, 0, none⟩), P] w fun e w' => e = .returned (.tuple #[]) ∧ StepG B M bS mv F (.slice none 0 0) k E' w w' := by
  go_enter Tryz.func24, Tryz.ntmps24
  go_upto_region 0 with (fail)
  try simp only [Act.put, ppA, ppB, ppC]
  refine wp_region_lit ?_
  refine st_x (v := .pointer (some ⟨bS, 0, none⟩)) rfl (x_val _ (.inl rfl) rfl) ?_; try simp only [Act.put, ppA, ppB, ppC]
  refine st_x (v := P) rfl (x_val _ (.inl rfl) rfl) ?_; try simp only [Act.put, ppA, ppB, ppC]
  refine st_callS (args := #[.pointer (some ⟨bS, 0, none⟩), P]) rfl rfl (by simp only [List.map_toArray, List.map_cons, List.map_nil]; rfl) Tryz.call33 (hc) ?_
  rintro e w1 ⟨rfl, hstep⟩
  refine ⟨_, rfl, ?_⟩
  try simp only [Act.put, ppA, ppB, ppC]
  refine st_x (v := P') rfl (x_val _ (.inr rfl) rfl) ?_; try simp only [Act.put, ppA, ppB, ppC]
  refine st_end14 ?_
  have HS := hQz hstep
  obtain ⟨mv', F', h1, _⟩ := hstep
  have hB := h1.blk
  clear h1 hc
  generalize hcv : (#[mv', .slice none 0 0, .int .i64 k] : Array Value) = cv at hB
  have hc1 : cv[1]? = some (.slice none 0 0) := by rw [← hcv]; rfl
  clear hcv
  go_upto_region 1 with (fail)
  try simp only [Act.put, ppA, ppB, ppC]
  refine wp_region_lit ?_
  refine st_x (v := .pointer (some ⟨bS, 0, none⟩)) rfl (x_val _ (.inl rfl) rfl) ?_; try simp only [Act.put, ppA, ppB, ppC]
  refine st_x (v := .pointer (some ⟨bS, 0, none⟩)) rfl (x_nilck _ rfl rfl) ?_; try simp only [Act.put, ppA, ppB, ppC]
  refine st_x (v := .pointer (some ⟨bS, 1, none⟩)) rfl (x_fa _ _ _ rfl rfl (fa_s1 _ _)) ?_; try simp only [Act.put, ppA, ppB, ppC]
  refine st_x (v := .slice none 0 0) rfl (x_cell _ _ rfl rfl (hB.cell hc1) recs_agg) ?_; try simp only [Act.put, ppA, ppB, ppC]
  refine st_x (v := .int .i64 0) rfl (x_lenR0 _ rfl rfl) ?_; try simp only [Act.put, ppA, ppB, ppC]
  refine st_x (v := .int .i64 0) rfl (x_val _ (.inr rfl) rfl) ?_; try simp only [Act.put, ppA, ppB, ppC]
  refine st_end14 ?_
  go_upto_region 2 with (fail)
  try simp only [Act.put, ppA, ppB, ppC]
  refine k_seq (C := fun w' => w' = w1) rfl ?_
  refine k_in (v := .int .i64 0) rfl (fun w' hw' => x_val _ (.inl rfl) rfl) ?_; try simp only [Act.put, ppA, ppB, ppC]
  refine k_in (v := .bool false) rfl (fun w' hw' => by kernel_rfl) ?_; try simp only [Act.put, ppA, ppB, ppC]
  refine k_in (v := .bool false) rfl (fun w' hw' => x_val _ (.inl rfl) rfl) ?_; try simp only [Act.put, ppA, ppB, ppC]
  refine k_skip (j := 2) (b := false) rfl rfl rfl rfl rfl ?_; try simp only [Act.put, ppA, ppB, ppC]
  refine k_skip (j := 2) (b := false) rfl rfl rfl rfl rfl ?_; try simp only [Act.put, ppA, ppB, ppC]
  refine k_skip (j := 2) (b := false) rfl rfl rfl rfl rfl ?_; try simp only [Act.put, ppA, ppB, ppC]
  refine k_in (v := .bool false) rfl (fun w' hw' => x_pickS (c := false) rfl _ _ _ rfl rfl rfl rfl) ?_; try simp only [Act.put, ppA, ppB, ppC]
  refine k_end ?_
  intro w2 hw2
  subst hw2
  go_wp2
  go_end0
  exact ⟨rfl, HS.out⟩
end
section
open Go.RowKit Go.WideMaps Go.ChangeMaps Go.MapKept
set_option maxRecDepth 100000
set_option maxHeartbeats 2000000
theorem max_int (n : Int) (ty : TypeId) (w : World) : (Builtin.max_ #[3, 3] ty #[.int .i64 n, .int .i64 0]).run Tryz.prog w = .ok (.int .i64 ((n.toNat : Nat) : Int)) w := by
  by_cases h : n < 0
  · have e : ((n.toNat : Nat) : Int) = 0 := by omega
    rw [e]
    simp [Builtin.max_, Builtin.max2, h]
  · have e : ((n.toNat : Nat) : Int) = n := by omega
    rw [e]
    simp [Builtin.max_, Builtin.max2, h]
theorem x_max {o : Oper} {a : Act} {w : World} {n : Int} (xo yo : Operand) (ho : o.op = .call { callee := .builtin .max, args := #[xo, yo], argTypes := #[3, 3] }) (hx : a.eval xo = .int .i64 n) (hy : a.eval yo = .int .i64 0) : (execOp a.eval o).run Tryz.prog w = .ok (.value (.int .i64 ((n.toNat : Nat) : Int))) w := by
  unfold execOp
  simp [ho, resolve, invoke, builtin, hx, hy, max_int]
theorem bld_nonG (A : List Nat) (n : Nat) (w : World) : (Instr.build 60 #[(0, .agg (av A)), (1, .int .i64 (n : Int))]).run Tryz.prog w = .ok (.agg (nonC A n)) w := by kernel_rfl
theorem setBalanceG (B N : Nat) (w : World) (bS : Nat) (mv : Value) (k : Int) (F : List Nat → Option (Nat × Value)) (E : List Nat → Ac) (A : List Nat) (y : Nat) (h : GsP B N w bS mv (.slice none 0 0) k F E) (hA : Ad A) (hN : N < 100000000) (hy : y < M256) :
    Calls Tryz.prog 9 #[.pointer (some ⟨bS, 0, none⟩), .agg (av A), .agg (wcells y)] w fun e w' => e = .returned (.tuple #[]) ∧ StepG B (N + 1) bS mv F (.slice none 0 0) k (upQ E A ⟨(E A).n, y, (E A).c, (E A).S⟩) w w' := by
  have hS := St.start w
  go_enter Tryz.func9, Tryz.ntmps9
  go_upto_region 0 with (fail)
  try simp only [Act.put, ppA, ppB, ppC]
  refine wp_region_lit ?_
  refine st_box hS rfl 23 _ rfl rfl ?_; clear hS; intro w1 b1 hS; try simp only [Act.put, ppA, ppB, ppC]
  refine st_box hS rfl 25 _ rfl rfl ?_; clear hS; intro w2 b2 hS; try simp only [Act.put, ppA, ppB, ppC]
  refine st_end14 ?_
  have hT := hS.frame
  have g1 : Blk w2 b1 23 (av A) := hS.get (.tail .head)
  have g2 : Blk w2 b2 25 (wcells y) := hS.get .head
  have hg := h.call hT
  clear hS
  go_upto_region 1 with (fail)
  try simp only [Act.put, ppA, ppB, ppC]
  refine wp_region_lit ?_
  refine st_x (v := .pointer (some ⟨bS, 0, none⟩)) rfl (x_val _ (.inl rfl) rfl) ?_; try simp only [Act.put, ppA, ppB, ppC]
  refine st_x (v := .agg (av A)) rfl (x_ld _ rfl rfl (g1) addr_tyY rfl (by rw [arrV_size]; exact addr_sizeY)) ?_; try simp only [Act.put, ppA, ppB, ppC]
  refine st_x (v := .agg (wcells y)) rfl (x_ld _ rfl rfl (g2) wordN_type rfl (by rw [wc_size]; exact wordN_size)) ?_; try simp only [Act.put, ppA, ppB, ppC]
  refine st_x (v := .agg (balC A y)) rfl (x_bld (vals := #[(0, .agg (av A)), (1, .agg (wcells y))]) rfl (by simp only [List.map_toArray, List.map_cons, List.map_nil]; rfl) (bld_bal _ _ _)) ?_; try simp only [Act.put, ppA, ppB, ppC]
  refine st_x (v := .iface 62 (.agg (balC A y))) rfl (x_mkI _ _ rfl rfl (mkB _ _)) ?_; try simp only [Act.put, ppA, ppB, ppC]
  refine st_callS (args := #[.pointer (some ⟨bS, 0, none⟩), .iface 62 (.agg (balC A y))]) rfl rfl (by simp only [List.map_toArray, List.map_cons, List.map_nil]; rfl) Tryz.call24 (changeG0 B (N + 1) w2 bS mv _ (.iface 62 (.agg (balC A (E A).x))) k F _ (put_balanceG B N w2 bS mv _ k F E A y hg hA (by omega) hy)) ?_
  rintro e wz ⟨rfl, hstep⟩
  refine ⟨_, rfl, ?_⟩
  try simp only [Act.put, ppA, ppB, ppC]
  refine st_end14 ?_
  go_wp2
  go_end0
  exact ⟨rfl, StepG.of hT hstep (Tch.refl _ _)⟩
theorem setNonceG (B N : Nat) (w : World) (bS : Nat) (mv : Value) (k : Int) (F : List Nat → Option (Nat × Value)) (E : List Nat → Ac) (A : List Nat) (n : Int) (h : GsP B N w bS mv (.slice none 0 0) k F E) (hA : Ad A) (hN : N < 100000000) (hy : n < 9223372036854775808) :
    Calls Tryz.prog 8 #[.pointer (some ⟨bS, 0, none⟩), .agg (av A), .int .i64 n] w fun e w' => e = .returned (.tuple #[]) ∧ StepG B (N + 1) bS mv F (.slice none 0 0) k (upQ E A ⟨n.toNat, (E A).x, (E A).c, (E A).S⟩) w w' := by
  have hS := St.start w
  go_enter Tryz.func8, Tryz.ntmps8
  go_upto_region 0 with (fail)
  try simp only [Act.put, ppA, ppB, ppC]
  refine wp_region_lit ?_
  refine st_box hS rfl 23 _ rfl rfl ?_; clear hS; intro w1 b1 hS; try simp only [Act.put, ppA, ppB, ppC]
  refine st_end14 ?_
  have hT := hS.frame
  have g1 : Blk w1 b1 23 (av A) := hS.get .head
  have hg := h.call hT
  clear hS
  go_upto_region 1 with (fail)
  try simp only [Act.put, ppA, ppB, ppC]
  refine wp_region_lit ?_
  refine st_x (v := .pointer (some ⟨bS, 0, none⟩)) rfl (x_val _ (.inl rfl) rfl) ?_; try simp only [Act.put, ppA, ppB, ppC]
  refine st_x (v := .agg (av A)) rfl (x_ld _ rfl rfl (g1) addr_tyY rfl (by rw [arrV_size]; exact addr_sizeY)) ?_; try simp only [Act.put, ppA, ppB, ppC]
  refine st_x (v := .int .i64 n) rfl (x_val _ (.inl rfl) rfl) ?_; try simp only [Act.put, ppA, ppB, ppC]
  refine st_x (v := .int .i64 ((n.toNat : Nat) : Int)) rfl (x_max _ _ rfl rfl rfl) ?_; try simp only [Act.put, ppA, ppB, ppC]
  refine st_x (v := .agg (nonC A n.toNat)) rfl (x_bld (vals := #[(0, .agg (av A)), (1, .int .i64 ((n.toNat : Nat) : Int))]) rfl (by simp only [List.map_toArray, List.map_cons, List.map_nil]; rfl) (bld_nonG _ _ _)) ?_; try simp only [Act.put, ppA, ppB, ppC]
  refine st_x (v := .iface 60 (.agg (nonC A n.toNat))) rfl (x_mkI _ _ rfl rfl (mkN _ _)) ?_; try simp only [Act.put, ppA, ppB, ppC]
  refine st_callS (args := #[.pointer (some ⟨bS, 0, none⟩), .iface 60 (.agg (nonC A n.toNat))]) rfl rfl (by simp only [List.map_toArray, List.map_cons, List.map_nil]; rfl) Tryz.call24 (changeG0 B (N + 1) w1 bS mv _ (.iface 60 (.agg (nonC A (E A).n))) k F _ (put_nonceG B N w1 bS mv _ k F E A n.toNat hg hA (by omega) (by omega))) ?_
  rintro e wz ⟨rfl, hstep⟩
  refine ⟨_, rfl, ?_⟩
  try simp only [Act.put, ppA, ppB, ppC]
  refine st_end14 ?_
  go_wp2
  go_end0
  exact ⟨rfl, StepG.of hT hstep (Tch.refl _ _)⟩
end
section
open Go.RowKit Go.WideMaps Go.ChangeMaps Go.MapKept
set_option maxRecDepth 100000
set_option maxHeartbeats 2000000
theorem bld_sloG (A : List Nat) (kk v : Nat) (w : World) : (Instr.build 64 #[(0, .agg (av A)), (1, .agg (wcells kk)), (2, .agg (wcells v))]).run Tryz.prog w = .ok (.agg (sloC A kk v)) w := by kernel_rfl
theorem bld_whoG (A : List Nat) (w : World) : (Instr.build 68 #[(0, .agg (av A))]).run Tryz.prog w = .ok (.agg (whoC A (.pointer none))) w := by kernel_rfl
theorem setSlotG (B N : Nat) (w : World) (bS : Nat) (mv : Value) (k : Int) (F : List Nat → Option (Nat × Value)) (E : List Nat → Ac) (A : List Nat) (kk v : Nat) (h : GsP B N w bS mv (.slice none 0 0) k F E) (hA : Ad A) (hN : N < 100000000) (hk : kk < M256) (hv : v < M256) :
    Calls Tryz.prog 10 #[.pointer (some ⟨bS, 0, none⟩), .agg (av A), .agg (wcells kk), .agg (wcells v)] w fun e w' => e = .returned (.tuple #[]) ∧ StepG B (N + 2) bS mv F (.slice none 0 0) k (upQ E A ⟨(E A).n, (E A).x, (E A).c, upS (E A).S kk v⟩) w w' := by
  have hS := St.start w
  go_enter Tryz.func10, Tryz.ntmps10
  go_upto_region 0 with (fail)
  try simp only [Act.put, ppA, ppB, ppC]
  refine wp_region_lit ?_
  refine st_box hS rfl 23 _ rfl rfl ?_; clear hS; intro w1 b1 hS; try simp only [Act.put, ppA, ppB, ppC]
  refine st_box hS rfl 25 _ rfl rfl ?_; clear hS; intro w2 b2 hS; try simp only [Act.put, ppA, ppB, ppC]
  refine st_box hS rfl 25 _ rfl rfl ?_; clear hS; intro w3 b3 hS; try simp only [Act.put, ppA, ppB, ppC]
  refine st_end14 ?_
  have hT := hS.frame
  have g1 : Blk w3 b1 23 (av A) := hS.get (.tail (.tail .head))
  have g2 : Blk w3 b2 25 (wcells kk) := hS.get (.tail .head)
  have g3 : Blk w3 b3 25 (wcells v) := hS.get .head
  have hg := h.call hT
  clear hS
  go_upto_region 1 with (fail)
  try simp only [Act.put, ppA, ppB, ppC]
  refine wp_region_lit ?_
  refine st_x (v := .pointer (some ⟨bS, 0, none⟩)) rfl (x_val _ (.inl rfl) rfl) ?_; try simp only [Act.put, ppA, ppB, ppC]
  refine st_x (v := .agg (av A)) rfl (x_ld _ rfl rfl (g1) addr_tyY rfl (by rw [arrV_size]; exact addr_sizeY)) ?_; try simp only [Act.put, ppA, ppB, ppC]
  refine st_x (v := .agg (wcells kk)) rfl (x_ld _ rfl rfl (g2) wordN_type rfl (by rw [wc_size]; exact wordN_size)) ?_; try simp only [Act.put, ppA, ppB, ppC]
  refine st_x (v := .agg (wcells v)) rfl (x_ld _ rfl rfl (g3) wordN_type rfl (by rw [wc_size]; exact wordN_size)) ?_; try simp only [Act.put, ppA, ppB, ppC]
  refine st_x (v := .agg (sloC A kk v)) rfl (x_bld (vals := #[(0, .agg (av A)), (1, .agg (wcells kk)), (2, .agg (wcells v))]) rfl (by simp only [List.map_toArray, List.map_cons, List.map_nil]; rfl) (bld_sloG _ _ _ _)) ?_; try simp only [Act.put, ppA, ppB, ppC]
  refine st_x (v := .iface 64 (.agg (sloC A kk v))) rfl (x_mkI _ _ rfl rfl (mkSl _ _)) ?_; try simp only [Act.put, ppA, ppB, ppC]
  refine st_callS (args := #[.pointer (some ⟨bS, 0, none⟩), .iface 64 (.agg (sloC A kk v))]) rfl rfl (by simp only [List.map_toArray, List.map_cons, List.map_nil]; rfl) Tryz.call24 (changeG0 B (N + 2) w3 bS mv _ (.iface 64 (.agg (sloC A kk ((E A).S kk)))) k F _ (put_slotG B N w3 bS mv _ k F E A kk v hg hA (by omega) hk hv)) ?_
  rintro e wz ⟨rfl, hstep⟩
  refine ⟨_, rfl, ?_⟩
  try simp only [Act.put, ppA, ppB, ppC]
  refine st_end14 ?_
  go_wp2
  go_end0
  exact ⟨rfl, StepG.of hT hstep (Tch.refl _ _)⟩
theorem killStG (B N : Nat) (w : World) (bS : Nat) (mv : Value) (k : Int) (F : List Nat → Option (Nat × Value)) (E : List Nat → Ac) (A : List Nat)  (h : GsP B N w bS mv (.slice none 0 0) k F E) (hA : Ad A) (hN : N < 100000000)  :
    Calls Tryz.prog 12 #[.pointer (some ⟨bS, 0, none⟩), .agg (av A)] w fun e w' => e = .returned (.tuple #[]) ∧ StepG B (N + 0) bS mv F (.slice none 0 0) k (upQ E A Ac.nil) w w' := by
  have hS := St.start w
  go_enter Tryz.func12, Tryz.ntmps12
  go_upto_region 0 with (fail)
  try simp only [Act.put, ppA, ppB, ppC]
  refine wp_region_lit ?_
  refine st_box hS rfl 23 _ rfl rfl ?_; clear hS; intro w1 b1 hS; try simp only [Act.put, ppA, ppB, ppC]
  refine st_end14 ?_
  have hT := hS.frame
  have g1 : Blk w1 b1 23 (av A) := hS.get .head
  have hg := h.call hT
  clear hS
  go_upto_region 1 with (fail)
  try simp only [Act.put, ppA, ppB, ppC]
  refine wp_region_lit ?_
  refine st_x (v := .pointer (some ⟨bS, 0, none⟩)) rfl (x_val _ (.inl rfl) rfl) ?_; try simp only [Act.put, ppA, ppB, ppC]
  refine st_x (v := .agg (av A)) rfl (x_ld _ rfl rfl (g1) addr_tyY rfl (by rw [arrV_size]; exact addr_sizeY)) ?_; try simp only [Act.put, ppA, ppB, ppC]
  refine st_x (v := .agg (whoC A (.pointer none))) rfl (x_bld (vals := #[(0, .agg (av A))]) rfl (by simp only [List.map_toArray, List.map_cons, List.map_nil]; rfl) (bld_whoG _ _)) ?_; try simp only [Act.put, ppA, ppB, ppC]
  refine st_x (v := .iface 68 (.agg (whoC A (.pointer none)))) rfl (x_mkI _ _ rfl rfl (mkW _ _)) ?_; try simp only [Act.put, ppA, ppB, ppC]
  refine st_callS (args := #[.pointer (some ⟨bS, 0, none⟩), .iface 68 (.agg (whoC A (.pointer none)))]) rfl rfl (by simp only [List.map_toArray, List.map_cons, List.map_nil]; rfl) Tryz.call24 (changeG0 B (N + 0) w1 bS mv _ (.iface 68 (.agg (whoC A (ptrV ((F A).map (·.1)))))) k F _ ((killG B N w1 bS mv _ k F E A hg hA).mono fun e w2 ⟨h1, h2, h3⟩ => ⟨h1, StepG.ofStrike h2 h3⟩)) ?_
  rintro e wz ⟨rfl, hstep⟩
  refine ⟨_, rfl, ?_⟩
  try simp only [Act.put, ppA, ppB, ppC]
  refine st_end14 ?_
  go_wp2
  go_end0
  exact ⟨rfl, StepG.of hT hstep (Tch.refl _ _)⟩
end
end Go.Proofs.YtopfmaoeebgjmaaGreatDoor
