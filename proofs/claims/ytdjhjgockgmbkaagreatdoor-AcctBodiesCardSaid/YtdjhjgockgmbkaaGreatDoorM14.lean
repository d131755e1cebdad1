/- rlp.Word, the document's WordOf. -/
import Derived.Test.YtdjhjgockgmbkaaGreatDoorM13
set_option linter.unusedVariables false
set_option linter.unusedSimpArgs false
namespace Go.Proofs.YtdjhjgockgmbkaaGreatDoor
open Go.RowKit

/-- A word out of bytes, zeros in front. -/
def padW (L : List Nat) : List Nat := List.replicate (32 - L.length) 0 ++ L
theorem padW_len {L : List Nat} (h : L.length ≤ 32) : (padW L).length = 32 := by unfold padW; simp; omega
theorem padW_lt {L : List Nat} (h : ∀ x ∈ L, x < 256) : ∀ x ∈ padW L, x < 256 := by
  intro x hx
  rcases List.mem_append.1 hx with hx | hx
  · rw [List.eq_of_mem_replicate hx]; decide
  · exact h x hx
def zeros32 : List Nat := List.replicate 32 0
theorem wv_zero : (bc 32 fun _ => 0) = wv zeros32 := bc_congr fun i hi => by
  show 0 = zeros32.getD i 0
  unfold zeros32
  rw [List.getD_eq_getElem?_getD, List.getElem?_replicate]
  split <;> rfl
theorem wv_pad {L : List Nat} (h : L.length ≤ 32) : bc 32 (wr (fun _ => 0) (32 - L.length) L) = wv (padW L) := by
  refine bc_congr fun i hi => ?_
  unfold wr padW
  by_cases h1 : 32 - L.length ≤ i
  · rw [if_pos ⟨h1, by omega⟩, List.getD_eq_getElem?_getD, List.getD_eq_getElem?_getD, List.getElem?_append_right (by simpa using h1)]; simp
  · rw [if_neg (by omega), List.getD_eq_getElem?_getD, List.getElem?_append_left (by simp; omega)]
    simp [show i < 32 - L.length by omega]
/-- The word that an item is the bytes of, or none. -/
def wordOf : It → Option (List Nat)
  | .str L => if L.length ≤ 32 ∧ L.head? ≠ some 0 then some (padW L) else none
  | .lst _ => none
def WordPost (it : It) (w : World) (e : Ending) (w' : World) : Prop :=
  e = .returned (.tuple #[.agg (wv ((wordOf it).getD zeros32)), .bool (wordOf it).isSome]) ∧ Tch [] w w'
theorem word_lit : (bc 32 fun _ => 0) = #[.int .u8 0, .int .u8 0, .int .u8 0, .int .u8 0, .int .u8 0, .int .u8 0, .int .u8 0, .int .u8 0, .int .u8 0, .int .u8 0, .int .u8 0, .int .u8 0, .int .u8 0, .int .u8 0, .int .u8 0, .int .u8 0, .int .u8 0, .int .u8 0, .int .u8 0, .int .u8 0, .int .u8 0, .int .u8 0, .int .u8 0, .int .u8 0, .int .u8 0, .int .u8 0, .int .u8 0, .int .u8 0, .int .u8 0, .int .u8 0, .int .u8 0, .int .u8 0] := by kernel_rfl
theorem word_lit_eq : (Value.agg #[.int .u8 0, .int .u8 0, .int .u8 0, .int .u8 0, .int .u8 0, .int .u8 0, .int .u8 0, .int .u8 0, .int .u8 0, .int .u8 0, .int .u8 0, .int .u8 0, .int .u8 0, .int .u8 0, .int .u8 0, .int .u8 0, .int .u8 0, .int .u8 0, .int .u8 0, .int .u8 0, .int .u8 0, .int .u8 0, .int .u8 0, .int .u8 0, .int .u8 0, .int .u8 0, .int .u8 0, .int .u8 0, .int .u8 0, .int .u8 0, .int .u8 0, .int .u8 0]) = .agg (bc 32 fun _ => 0) := by rw [word_lit]
/-- The place of a word's cells from the k-th on. -/
noncomputable def ap (b k : Nat) : Option Addr := if k < 32 then some ⟨b, k, none⟩ else (arr_from b 32 (Nat.le_refl _)).choose
theorem ap_lt (b : Nat) {k : Nat} (h : k < 32) : ap b k = some ⟨b, k, none⟩ := if_pos h
theorem arr_fromL (b k : Nat) (hk : k ≤ 32) : ∀ w, (Instr.sliceAt 23 (.pointer (some ⟨b, 0, none⟩)) (some (.int .i64 (k : Int))) none none).run Tryz.prog w = .ok (.slice (ap b k) (32 - k) (32 - k)) w := by
  by_cases h : k < 32
  · obtain ⟨p', h1, h2⟩ := arr_from b k hk
    rw [ap_lt b h, ← h2 h]; exact h1
  · obtain rfl : k = 32 := by omega
    have h1 := (arr_from b 32 (Nat.le_refl _)).choose_spec.1
    unfold ap
    rw [if_neg (by omega)]; exact h1
theorem k_slc {o : Oper} {a : Act} {ops : Array Oper} {rest : List Oper} {C : World → Prop} {Q : Act → Prop} {v n u : Value} (hw : Region.wanted o (yielded ops a.tmps) = true) (x y : Operand) (t : TypeId) (ho : o.op = .slice t x (some y) none none) (hx : a.eval x = v) (hy : a.eval y = n)
    (hr : ∀ w, (Instr.sliceAt t v (some n) none none).run Tryz.prog w = .ok u w) (h : KQ ops C Q rest (a.put o.dst u)) : KQ ops C Q (o :: rest) a :=
  k_pure hw (fun w => by unfold execOp; simp only [ho, hx, hy, Option.map_some, Option.map_none]; show Sem.run _ _ w = _; simp only [Sem.run_bind, hr w, Result.andThen_ok]; rfl) h
set_option maxHeartbeats 2000000 in
set_option maxRecDepth 100000 in
theorem pword_lst (yb yl : Value) (its : List It) (w : World) : Calls Tryz.prog 94 #[.agg #[.bool true, yb, yl]] w (WordPost (.lst its) w) := by
  have hS := St.start w
  obtain ⟨z, hz, hz0⟩ : ∃ z, z = (bc 32 fun _ => 0) ∧ (Tryz.prog.info? 23).bind (·.zero) = some (.agg z) := ⟨_, rfl, word_zero⟩
  have HZ := Lib.hid (And.intro hz hz0)
  clear hz hz0
  go_enter Tryz.func94, Tryz.ntmps94
  go_upto_region 2 with (first
    | (refine st_box (L := []) hS rfl 68 _ rfl rfl ?_; clear hS; intro w1 b1 hS)
    | (refine st_new (L := [(b1, 68, #[.bool true, yb, yl])]) hS rfl 23 rfl HZ.out.2 ?_; clear hS; intro w2 b2 hS)
    | (refine st_new (L := [(b2, 23, z), (b1, 68, #[.bool true, yb, yl])]) hS rfl 23 rfl HZ.out.2 ?_; clear hS; intro w4 b4 hS))
  have d0 : w4.cell? ⟨b1, 0, none⟩ = some (.bool true) := (hS.get (.tail (.tail .head))).cell (j := 0) rfl
  refine k_seq (C := fun w' => w' = w4) rfl ?_
  refine k_fld rfl _ _ _ rfl rfl (item_f0 _) ?_; try simp only [Act.put, List.setIfInBounds_toArray, List.set_cons_zero, List.set_cons_succ]
  refine k_cellC rfl _ _ rfl rfl (by rintro w' rfl; exact d0) bool_aggN ?_; try simp only [Act.put, List.setIfInBounds_toArray, List.set_cons_zero, List.set_cons_succ]
  refine k_boolm rfl _ rfl rfl ?_; try simp only [Act.put, List.setIfInBounds_toArray, List.set_cons_zero, List.set_cons_succ]
  refine k_skip rfl rfl rfl rfl rfl ?_; try simp only [Act.put, List.setIfInBounds_toArray, List.set_cons_zero, List.set_cons_succ]
  refine k_skip rfl rfl rfl rfl rfl ?_; try simp only [Act.put, List.setIfInBounds_toArray, List.set_cons_zero, List.set_cons_succ]
  refine k_skip rfl rfl rfl rfl rfl ?_; try simp only [Act.put, List.setIfInBounds_toArray, List.set_cons_zero, List.set_cons_succ]
  refine k_skip rfl rfl rfl rfl rfl ?_; try simp only [Act.put, List.setIfInBounds_toArray, List.set_cons_zero, List.set_cons_succ]
  refine k_pickT rfl _ _ _ rfl rfl rfl ?_; try simp only [Act.put, List.setIfInBounds_toArray, List.set_cons_zero, List.set_cons_succ]
  refine k_boolm rfl _ rfl rfl ?_; try simp only [Act.put, List.setIfInBounds_toArray, List.set_cons_zero, List.set_cons_succ]
  refine k_skip rfl rfl rfl rfl rfl ?_; try simp only [Act.put, List.setIfInBounds_toArray, List.set_cons_zero, List.set_cons_succ]
  refine k_skip rfl rfl rfl rfl rfl ?_; try simp only [Act.put, List.setIfInBounds_toArray, List.set_cons_zero, List.set_cons_succ]
  refine k_skip rfl rfl rfl rfl rfl ?_; try simp only [Act.put, List.setIfInBounds_toArray, List.set_cons_zero, List.set_cons_succ]
  refine k_skip rfl rfl rfl rfl rfl ?_; try simp only [Act.put, List.setIfInBounds_toArray, List.set_cons_zero, List.set_cons_succ]
  refine k_skip rfl rfl rfl rfl rfl ?_; try simp only [Act.put, List.setIfInBounds_toArray, List.set_cons_zero, List.set_cons_succ]
  refine k_skipN rfl ?_; try simp only [Act.put, List.setIfInBounds_toArray, List.set_cons_zero, List.set_cons_succ]
  refine k_skipN rfl ?_; try simp only [Act.put, List.setIfInBounds_toArray, List.set_cons_zero, List.set_cons_succ]
  refine k_skipN rfl ?_; try simp only [Act.put, List.setIfInBounds_toArray, List.set_cons_zero, List.set_cons_succ]
  refine k_skipN rfl ?_; try simp only [Act.put, List.setIfInBounds_toArray, List.set_cons_zero, List.set_cons_succ]
  refine k_skipN rfl ?_; try simp only [Act.put, List.setIfInBounds_toArray, List.set_cons_zero, List.set_cons_succ]
  refine k_skip rfl rfl rfl rfl rfl ?_; try simp only [Act.put, List.setIfInBounds_toArray, List.set_cons_zero, List.set_cons_succ]
  refine k_pickT rfl _ _ _ rfl rfl rfl ?_; try simp only [Act.put, List.setIfInBounds_toArray, List.set_cons_zero, List.set_cons_succ]
  refine k_end ?_
  rintro w5 rfl
  rw [HZ.out.1] at hS
  go_wp2_with (first
    | (refine st_store (b := b2) (c' := bc 32 fun _ => 0) hS rfl 23 _ _ rfl rfl word_lit_eq (by repeat (first | exact Upd.head | apply Upd.tail)) wordN_size (bc_size _ _) (bc_size _ _) (bc_one _ _) ?_; clear hS; intro w6 hS))
  refine post_cell_one 2 3 23 rfl rfl rfl rfl (hS.get (.tail .head)) wordN_type rfl wordN_size (bc_size _ _) ?_
  exact ⟨by rw [wv_zero]; rfl, hS.frame⟩
set_option maxHeartbeats 2000000 in
set_option maxRecDepth 100000 in
theorem pword_long (yb yl : Value) (L : List Nat) (w : World) (hv : RdA [] w yb L) (h : 32 < L.length) : Calls Tryz.prog 94 #[.agg #[.bool false, yb, yl]] w (WordPost (.str L) w) := by
  have hS := St.start w
  obtain ⟨p, n, c, rfl⟩ := slice_keep hv
  have hlen := hv.len
  have HN := Lib.hid (show 32 < n by omega)
  have HE := Lib.hid (show wordOf (.str L) = none by show (if _ then _ else _) = _; rw [if_neg (fun h' => by omega)])
  clear hv hlen h
  obtain ⟨z, hz, hz0⟩ : ∃ z, z = (bc 32 fun _ => 0) ∧ (Tryz.prog.info? 23).bind (·.zero) = some (.agg z) := ⟨_, rfl, word_zero⟩
  have HZ := Lib.hid (And.intro hz hz0)
  clear hz hz0
  go_enter Tryz.func94, Tryz.ntmps94
  go_upto_region 2 with (first
    | (refine st_box (L := []) hS rfl 68 _ rfl rfl ?_; clear hS; intro w1 b1 hS)
    | (refine st_new (L := [(b1, 68, #[.bool false, .slice p n c, yl])]) hS rfl 23 rfl HZ.out.2 ?_; clear hS; intro w2 b2 hS)
    | (refine st_new (L := [(b2, 23, z), (b1, 68, #[.bool false, .slice p n c, yl])]) hS rfl 23 rfl HZ.out.2 ?_; clear hS; intro w4 b4 hS))
  have d0 : w4.cell? ⟨b1, 0, none⟩ = some (.bool false) := (hS.get (.tail (.tail .head))).cell (j := 0) rfl
  have d1 : w4.cell? ⟨b1, 1, none⟩ = some (.slice p n c) := (hS.get (.tail (.tail .head))).cell (j := 1) rfl
  refine k_seq (C := fun w' => w' = w4) rfl ?_
  refine k_fld rfl _ _ _ rfl rfl (item_f0 _) ?_; try simp only [Act.put, List.setIfInBounds_toArray, List.set_cons_zero, List.set_cons_succ]
  refine k_cellC rfl _ _ rfl rfl (by rintro w' rfl; exact d0) bool_aggN ?_; try simp only [Act.put, List.setIfInBounds_toArray, List.set_cons_zero, List.set_cons_succ]
  refine k_boolm rfl _ rfl rfl ?_; try simp only [Act.put, List.setIfInBounds_toArray, List.set_cons_zero, List.set_cons_succ]
  refine k_fld rfl _ _ _ rfl rfl (item_f1 _) ?_; try simp only [Act.put, List.setIfInBounds_toArray, List.set_cons_zero, List.set_cons_succ]
  refine k_cellC rfl _ _ rfl rfl (by rintro w' rfl; exact d1) bytes_aggN ?_; try simp only [Act.put, List.setIfInBounds_toArray, List.set_cons_zero, List.set_cons_succ]
  refine k_lenSl rfl _ rfl rfl ?_; try simp only [Act.put, List.setIfInBounds_toArray, List.set_cons_zero, List.set_cons_succ]
  refine k_gtr rfl _ _ _ rfl rfl rfl (decide_eq_true (by have h := HN.out; omega)) ?_; try simp only [Act.put, List.setIfInBounds_toArray, List.set_cons_zero, List.set_cons_succ]
  refine k_pickF rfl _ _ _ rfl rfl rfl ?_; try simp only [Act.put, List.setIfInBounds_toArray, List.set_cons_zero, List.set_cons_succ]
  refine k_boolm rfl _ rfl rfl ?_; try simp only [Act.put, List.setIfInBounds_toArray, List.set_cons_zero, List.set_cons_succ]
  refine k_skip rfl rfl rfl rfl rfl ?_; try simp only [Act.put, List.setIfInBounds_toArray, List.set_cons_zero, List.set_cons_succ]
  refine k_skip rfl rfl rfl rfl rfl ?_; try simp only [Act.put, List.setIfInBounds_toArray, List.set_cons_zero, List.set_cons_succ]
  refine k_skip rfl rfl rfl rfl rfl ?_; try simp only [Act.put, List.setIfInBounds_toArray, List.set_cons_zero, List.set_cons_succ]
  refine k_skip rfl rfl rfl rfl rfl ?_; try simp only [Act.put, List.setIfInBounds_toArray, List.set_cons_zero, List.set_cons_succ]
  refine k_skip rfl rfl rfl rfl rfl ?_; try simp only [Act.put, List.setIfInBounds_toArray, List.set_cons_zero, List.set_cons_succ]
  refine k_skipN rfl ?_; try simp only [Act.put, List.setIfInBounds_toArray, List.set_cons_zero, List.set_cons_succ]
  refine k_skipN rfl ?_; try simp only [Act.put, List.setIfInBounds_toArray, List.set_cons_zero, List.set_cons_succ]
  refine k_skipN rfl ?_; try simp only [Act.put, List.setIfInBounds_toArray, List.set_cons_zero, List.set_cons_succ]
  refine k_skipN rfl ?_; try simp only [Act.put, List.setIfInBounds_toArray, List.set_cons_zero, List.set_cons_succ]
  refine k_skipN rfl ?_; try simp only [Act.put, List.setIfInBounds_toArray, List.set_cons_zero, List.set_cons_succ]
  refine k_skip rfl rfl rfl rfl rfl ?_; try simp only [Act.put, List.setIfInBounds_toArray, List.set_cons_zero, List.set_cons_succ]
  refine k_pickT rfl _ _ _ rfl rfl rfl ?_; try simp only [Act.put, List.setIfInBounds_toArray, List.set_cons_zero, List.set_cons_succ]
  refine k_end ?_
  rintro w5 rfl
  rw [HZ.out.1] at hS
  go_wp2_with (first
    | (refine st_store (b := b2) (c' := bc 32 fun _ => 0) hS rfl 23 _ _ rfl rfl word_lit_eq (by repeat (first | exact Upd.head | apply Upd.tail)) wordN_size (bc_size _ _) (bc_size _ _) (bc_one _ _) ?_; clear hS; intro w6 hS))
  refine post_cell_one 2 3 23 rfl rfl rfl rfl (hS.get (.tail .head)) wordN_type rfl wordN_size (bc_size _ _) ?_
  exact ⟨by rw [HE.out, wv_zero]; rfl, hS.frame⟩
set_option maxHeartbeats 2000000 in
set_option maxRecDepth 100000 in
theorem pword_zero (yb yl : Value) (r : List Nat) (w : World) (hv : RdA [] w yb (0 :: r)) (h : (0 :: r).length ≤ 32) : Calls Tryz.prog 94 #[.agg #[.bool false, yb, yl]] w (WordPost (.str (0 :: r)) w) := by
  have hS := St.start w
  obtain ⟨p, n, c, rfl⟩ := slice_keep hv
  have hlen := hv.len
  obtain ⟨b, o, rfl, hbw, hc⟩ := at_ofN hv (by simp)
  have hc0 := hc 0 (by simp)
  rw [Nat.add_zero] at hc0
  simp only [List.getD_cons_zero] at hc0
  have HC := Lib.hid (fun (w' : World) (h : Tch [] w w') => (h.cell (p := ⟨b, o, none⟩) hbw (by simp)).trans hc0)
  have HN := Lib.hid (show 0 < n ∧ n ≤ 32 by simp only [List.length_cons] at hlen h; omega)
  have HE := Lib.hid (show wordOf (.str (0 :: r)) = none by show (if _ then _ else _) = _; rw [if_neg (fun h' => h'.2 rfl)])
  clear hv hlen h hc hc0
  obtain ⟨z, hz, hz0⟩ : ∃ z, z = (bc 32 fun _ => 0) ∧ (Tryz.prog.info? 23).bind (·.zero) = some (.agg z) := ⟨_, rfl, word_zero⟩
  have HZ := Lib.hid (And.intro hz hz0)
  clear hz hz0
  go_enter Tryz.func94, Tryz.ntmps94
  go_upto_region 2 with (first
    | (refine st_box (L := []) hS rfl 68 _ rfl rfl ?_; clear hS; intro w1 b1 hS)
    | (refine st_new (L := [(b1, 68, #[.bool false, .slice (some ⟨b, o, none⟩) n c, yl])]) hS rfl 23 rfl HZ.out.2 ?_; clear hS; intro w2 b2 hS)
    | (refine st_new (L := [(b2, 23, z), (b1, 68, #[.bool false, .slice (some ⟨b, o, none⟩) n c, yl])]) hS rfl 23 rfl HZ.out.2 ?_; clear hS; intro w4 b4 hS))
  have d0 : w4.cell? ⟨b1, 0, none⟩ = some (.bool false) := (hS.get (.tail (.tail .head))).cell (j := 0) rfl
  have d1 : w4.cell? ⟨b1, 1, none⟩ = some (.slice (some ⟨b, o, none⟩) n c) := (hS.get (.tail (.tail .head))).cell (j := 1) rfl
  have d2 := HC.out _ hS.frame
  refine k_seq (C := fun w' => w' = w4) rfl ?_
  refine k_fld rfl _ _ _ rfl rfl (item_f0 _) ?_; try simp only [Act.put, List.setIfInBounds_toArray, List.set_cons_zero, List.set_cons_succ]
  refine k_cellC rfl _ _ rfl rfl (by rintro w' rfl; exact d0) bool_aggN ?_; try simp only [Act.put, List.setIfInBounds_toArray, List.set_cons_zero, List.set_cons_succ]
  refine k_boolm rfl _ rfl rfl ?_; try simp only [Act.put, List.setIfInBounds_toArray, List.set_cons_zero, List.set_cons_succ]
  refine k_fld rfl _ _ _ rfl rfl (item_f1 _) ?_; try simp only [Act.put, List.setIfInBounds_toArray, List.set_cons_zero, List.set_cons_succ]
  refine k_cellC rfl _ _ rfl rfl (by rintro w' rfl; exact d1) bytes_aggN ?_; try simp only [Act.put, List.setIfInBounds_toArray, List.set_cons_zero, List.set_cons_succ]
  refine k_lenSl rfl _ rfl rfl ?_; try simp only [Act.put, List.setIfInBounds_toArray, List.set_cons_zero, List.set_cons_succ]
  refine k_gtr rfl _ _ _ rfl rfl rfl (decide_eq_false (by have h := HN.out; omega)) ?_; try simp only [Act.put, List.setIfInBounds_toArray, List.set_cons_zero, List.set_cons_succ]
  refine k_pickF rfl _ _ _ rfl rfl rfl ?_; try simp only [Act.put, List.setIfInBounds_toArray, List.set_cons_zero, List.set_cons_succ]
  refine k_boolm rfl _ rfl rfl ?_; try simp only [Act.put, List.setIfInBounds_toArray, List.set_cons_zero, List.set_cons_succ]
  refine k_fld rfl _ _ _ rfl rfl (item_f1 _) ?_; try simp only [Act.put, List.setIfInBounds_toArray, List.set_cons_zero, List.set_cons_succ]
  refine k_cellC rfl _ _ rfl rfl (by rintro w' rfl; exact d1) bytes_aggN ?_; try simp only [Act.put, List.setIfInBounds_toArray, List.set_cons_zero, List.set_cons_succ]
  refine k_lenSl rfl _ rfl rfl ?_; try simp only [Act.put, List.setIfInBounds_toArray, List.set_cons_zero, List.set_cons_succ]
  refine k_gtr rfl _ _ _ rfl rfl rfl (decide_eq_true (by have h := HN.out; omega)) ?_; try simp only [Act.put, List.setIfInBounds_toArray, List.set_cons_zero, List.set_cons_succ]
  refine k_boolm rfl _ rfl rfl ?_; try simp only [Act.put, List.setIfInBounds_toArray, List.set_cons_zero, List.set_cons_succ]
  refine k_fld rfl _ _ _ rfl rfl (item_f1 _) ?_; try simp only [Act.put, List.setIfInBounds_toArray, List.set_cons_zero, List.set_cons_succ]
  refine k_cellC rfl _ _ rfl rfl (by rintro w' rfl; exact d1) bytes_aggN ?_; try simp only [Act.put, List.setIfInBounds_toArray, List.set_cons_zero, List.set_cons_succ]
  refine k_idxSl (j := 0) rfl _ _ _ rfl rfl rfl bytes_ty u8_size (by have h := HN.out; omega) ?_; try simp only [Act.put, List.setIfInBounds_toArray, List.set_cons_zero, List.set_cons_succ]
  refine k_cellC rfl _ _ rfl rfl (by rintro w' rfl; exact d2) u8_aggN ?_; try simp only [Act.put, List.setIfInBounds_toArray, List.set_cons_zero, List.set_cons_succ]
  refine k_eq8 (t := true) rfl _ _ _ rfl rfl rfl (rfl) ?_; try simp only [Act.put, List.setIfInBounds_toArray, List.set_cons_zero, List.set_cons_succ]
  refine k_pickT rfl _ _ _ rfl rfl rfl ?_; try simp only [Act.put, List.setIfInBounds_toArray, List.set_cons_zero, List.set_cons_succ]
  refine k_pickF rfl _ _ _ rfl rfl rfl ?_; try simp only [Act.put, List.setIfInBounds_toArray, List.set_cons_zero, List.set_cons_succ]
  refine k_end ?_
  rintro w5 rfl
  rw [HZ.out.1] at hS
  go_wp2_with (first
    | (refine st_store (b := b2) (c' := bc 32 fun _ => 0) hS rfl 23 _ _ rfl rfl word_lit_eq (by repeat (first | exact Upd.head | apply Upd.tail)) wordN_size (bc_size _ _) (bc_size _ _) (bc_one _ _) ?_; clear hS; intro w6 hS))
  refine post_cell_one 2 3 23 rfl rfl rfl rfl (hS.get (.tail .head)) wordN_type rfl wordN_size (bc_size _ _) ?_
  exact ⟨by rw [HE.out, wv_zero]; rfl, hS.frame⟩
set_option maxHeartbeats 2000000 in
set_option maxRecDepth 100000 in
theorem pword_some (yb yl : Value) (L : List Nat) (w : World) (hv : RdA [] w yb L) (hne : L ≠ []) (h : L.length ≤ 32) (h0 : L.head? ≠ some 0) : Calls Tryz.prog 94 #[.agg #[.bool false, yb, yl]] w (WordPost (.str L) w) := by
  have hS := St.start w
  obtain ⟨p, n, c, rfl⟩ := slice_keep hv
  obtain rfl := hv.len
  obtain ⟨b, o, rfl, hbw, hc⟩ := at_ofN hv hne
  have hpos := List.length_pos_iff.2 hne
  have hc0 := hc 0 hpos
  rw [Nat.add_zero] at hc0
  have HX := Lib.hid (show (((L.getD 0 0 : Nat) : Int) == 0) = false by
    cases L with
    | nil => exact absurd rfl hne
    | cons y r => simp at h0; simp; omega)
  have HC := Lib.hid (fun (w' : World) (h : Tch [] w w') => (h.cell (p := ⟨b, o, none⟩) hbw (by simp)).trans hc0)
  have HN := Lib.hid (show 0 < L.length ∧ L.length ≤ 32 from ⟨hpos, h⟩)
  obtain ⟨K, hK⟩ : ∃ K, K = 32 - L.length := ⟨_, rfl⟩
  have HE := Lib.hid (show wordOf (.str L) = some (padW L) by show (if _ then _ else _) = _; rw [if_pos ⟨h, h0⟩])
  have HP := Lib.hid (show bc 32 (wr (fun _ => 0) K L) = wv (padW L) by rw [hK]; exact wv_pad h)
  have HK := Lib.hid (show K + L.length = 32 by omega)
  have HV := Lib.hid hv
  clear hv h h0 hne hpos hc hc0 hK
  obtain ⟨z, hz, hz0⟩ : ∃ z, z = (bc 32 fun _ => 0) ∧ (Tryz.prog.info? 23).bind (·.zero) = some (.agg z) := ⟨_, rfl, word_zero⟩
  have HZ := Lib.hid (And.intro hz hz0)
  clear hz hz0
  go_enter Tryz.func94, Tryz.ntmps94
  go_upto_region 2 with (first
    | (refine st_box (L := []) hS rfl 68 _ rfl rfl ?_; clear hS; intro w1 b1 hS)
    | (refine st_new (L := [(b1, 68, #[.bool false, .slice (some ⟨b, o, none⟩) L.length c, yl])]) hS rfl 23 rfl HZ.out.2 ?_; clear hS; intro w2 b2 hS)
    | (refine st_new (L := [(b2, 23, z), (b1, 68, #[.bool false, .slice (some ⟨b, o, none⟩) L.length c, yl])]) hS rfl 23 rfl HZ.out.2 ?_; clear hS; intro w4 b4 hS))
  have d0 : w4.cell? ⟨b1, 0, none⟩ = some (.bool false) := (hS.get (.tail (.tail .head))).cell (j := 0) rfl
  have d1 : w4.cell? ⟨b1, 1, none⟩ = some (.slice (some ⟨b, o, none⟩) L.length c) := (hS.get (.tail (.tail .head))).cell (j := 1) rfl
  have d2 := HC.out _ hS.frame
  refine k_seq (C := fun w' => w' = w4) rfl ?_
  refine k_fld rfl _ _ _ rfl rfl (item_f0 _) ?_; try simp only [Act.put, List.setIfInBounds_toArray, List.set_cons_zero, List.set_cons_succ]
  refine k_cellC rfl _ _ rfl rfl (by rintro w' rfl; exact d0) bool_aggN ?_; try simp only [Act.put, List.setIfInBounds_toArray, List.set_cons_zero, List.set_cons_succ]
  refine k_boolm rfl _ rfl rfl ?_; try simp only [Act.put, List.setIfInBounds_toArray, List.set_cons_zero, List.set_cons_succ]
  refine k_fld rfl _ _ _ rfl rfl (item_f1 _) ?_; try simp only [Act.put, List.setIfInBounds_toArray, List.set_cons_zero, List.set_cons_succ]
  refine k_cellC rfl _ _ rfl rfl (by rintro w' rfl; exact d1) bytes_aggN ?_; try simp only [Act.put, List.setIfInBounds_toArray, List.set_cons_zero, List.set_cons_succ]
  refine k_lenSl rfl _ rfl rfl ?_; try simp only [Act.put, List.setIfInBounds_toArray, List.set_cons_zero, List.set_cons_succ]
  refine k_gtr rfl _ _ _ rfl rfl rfl (decide_eq_false (by have h := HN.out; omega)) ?_; try simp only [Act.put, List.setIfInBounds_toArray, List.set_cons_zero, List.set_cons_succ]
  refine k_pickF rfl _ _ _ rfl rfl rfl ?_; try simp only [Act.put, List.setIfInBounds_toArray, List.set_cons_zero, List.set_cons_succ]
  refine k_boolm rfl _ rfl rfl ?_; try simp only [Act.put, List.setIfInBounds_toArray, List.set_cons_zero, List.set_cons_succ]
  refine k_fld rfl _ _ _ rfl rfl (item_f1 _) ?_; try simp only [Act.put, List.setIfInBounds_toArray, List.set_cons_zero, List.set_cons_succ]
  refine k_cellC rfl _ _ rfl rfl (by rintro w' rfl; exact d1) bytes_aggN ?_; try simp only [Act.put, List.setIfInBounds_toArray, List.set_cons_zero, List.set_cons_succ]
  refine k_lenSl rfl _ rfl rfl ?_; try simp only [Act.put, List.setIfInBounds_toArray, List.set_cons_zero, List.set_cons_succ]
  refine k_gtr rfl _ _ _ rfl rfl rfl (decide_eq_true (by have h := HN.out; omega)) ?_; try simp only [Act.put, List.setIfInBounds_toArray, List.set_cons_zero, List.set_cons_succ]
  refine k_boolm rfl _ rfl rfl ?_; try simp only [Act.put, List.setIfInBounds_toArray, List.set_cons_zero, List.set_cons_succ]
  refine k_fld rfl _ _ _ rfl rfl (item_f1 _) ?_; try simp only [Act.put, List.setIfInBounds_toArray, List.set_cons_zero, List.set_cons_succ]
  refine k_cellC rfl _ _ rfl rfl (by rintro w' rfl; exact d1) bytes_aggN ?_; try simp only [Act.put, List.setIfInBounds_toArray, List.set_cons_zero, List.set_cons_succ]
  refine k_idxSl (j := 0) rfl _ _ _ rfl rfl rfl bytes_ty u8_size (by have h := HN.out; omega) ?_; try simp only [Act.put, List.setIfInBounds_toArray, List.set_cons_zero, List.set_cons_succ]
  refine k_cellC rfl _ _ rfl rfl (by rintro w' rfl; exact d2) u8_aggN ?_; try simp only [Act.put, List.setIfInBounds_toArray, List.set_cons_zero, List.set_cons_succ]
  refine k_eq8 (t := false) rfl _ _ _ rfl rfl rfl (HX.out) ?_; try simp only [Act.put, List.setIfInBounds_toArray, List.set_cons_zero, List.set_cons_succ]
  refine k_pickT rfl _ _ _ rfl rfl rfl ?_; try simp only [Act.put, List.setIfInBounds_toArray, List.set_cons_zero, List.set_cons_succ]
  refine k_pickF rfl _ _ _ rfl rfl rfl ?_; try simp only [Act.put, List.setIfInBounds_toArray, List.set_cons_zero, List.set_cons_succ]
  refine k_end ?_
  rintro w5 rfl
  rw [HZ.out.1] at hS
  go_upto_region 4 with fail
  have hsl : ∀ w, (Instr.sliceAt 23 (.pointer (some ⟨b4, 0, none⟩)) (some (.int .i64 (K : Int))) none none).run Tryz.prog w = .ok (.slice (ap b4 K) L.length L.length) w := by
    have h1 := arr_fromL b4 K (by have h := HK.out; omega)
    rw [show 32 - K = L.length by have h := HK.out; omega] at h1
    exact h1
  refine k_region_head (C := fun w' => St [] w w' [(b4, 23, bc 32 fun _ => 0), (b2, 23, bc 32 fun _ => 0), (b1, 68, #[.bool false, .slice (some ⟨b, o, none⟩) L.length c, yl])]) 7 (by kernel_rfl) (by kernel_rfl) hS.drew ?_
  simp only [List.take_succ_cons, List.take_zero, List.drop_succ_cons, List.drop_zero]
  refine k_fld rfl _ _ _ rfl rfl (item_f1 _) ?_; try simp only [Act.put, List.setIfInBounds_toArray, List.set_cons_zero, List.set_cons_succ]
  refine k_cellC rfl _ _ rfl rfl (fun w' h => (h.get (.tail (.tail .head))).cell (j := 1) rfl) bytes_aggN ?_; try simp only [Act.put, List.setIfInBounds_toArray, List.set_cons_zero, List.set_cons_succ]
  refine k_lenSl rfl _ rfl rfl ?_; try simp only [Act.put, List.setIfInBounds_toArray, List.set_cons_zero, List.set_cons_succ]
  refine k_sub (s := ((K : Nat) : Int)) rfl _ _ _ _ rfl rfl rfl (by have h := HK.out; rw [IntKind.wrap_i64]; omega) ?_; try simp only [Act.put, List.setIfInBounds_toArray, List.set_cons_zero, List.set_cons_succ]
  refine k_slc rfl _ _ _ rfl rfl rfl hsl ?_; try simp only [Act.put, List.setIfInBounds_toArray, List.set_cons_zero, List.set_cons_succ]
  refine k_fld rfl _ _ _ rfl rfl (item_f1 _) ?_; try simp only [Act.put, List.setIfInBounds_toArray, List.set_cons_zero, List.set_cons_succ]
  refine k_cellC rfl _ _ rfl rfl (fun w' h => (h.get (.tail (.tail .head))).cell (j := 1) rfl) bytes_aggN ?_; try simp only [Act.put, List.setIfInBounds_toArray, List.set_cons_zero, List.set_cons_succ]
  refine k_end ?_
  clear hS hsl
  intro w7 hS
  go_wp2_with (first
    | (refine copy_bytes (l := L) (at_ := K) (f := fun _ => 0) (t := 23) (n0 := 32) (b := b4) (hS.get .head) rfl (.tmp 31) (.tmp 33) rfl rfl (fun hne => ap_lt b4 (by have h := HK.out; have h2 : 0 < L.length := List.length_pos_iff.2 hne; omega)) rfl (HV.out.tch hS.frame).rdB (by have h := HK.out; omega) ?_; intro w8 hB8 hO8; replace hS := hS.upd .head hO8 hB8; rw [HP.out] at hS; clear hB8 hO8)
    | (refine st_load (b := b4) hS rfl 23 _ rfl rfl .head wordN_type rfl wordN_size (bc_size _ _) ?_)
    | (refine st_store (b := b2) (c' := wv (padW L)) hS rfl 23 _ _ rfl rfl rfl (by repeat (first | exact Upd.head | apply Upd.tail)) wordN_size (bc_size _ _) (bc_size _ _) (bc_one _ _) ?_; clear hS; intro w6 hS))
  refine post_cell_one 2 3 23 rfl rfl rfl rfl (hS.get (.tail .head)) wordN_type rfl wordN_size (bc_size _ _) ?_
  exact ⟨by rw [HE.out]; rfl, hS.frame⟩
set_option maxHeartbeats 2000000 in
set_option maxRecDepth 100000 in
theorem pword_none (yb yl : Value) (L : List Nat) (w : World) (hv : RdA [] w yb L) (hL : L = []) : Calls Tryz.prog 94 #[.agg #[.bool false, yb, yl]] w (WordPost (.str L) w) := by
  have hS := St.start w
  obtain ⟨p, n, c, rfl⟩ := slice_keep hv
  obtain rfl := hv.len
  have h : L.length ≤ 32 := by rw [hL]; decide
  have h0 : L.head? ≠ some 0 := by rw [hL]; decide
  have HN := Lib.hid (show L.length = 0 by rw [hL]; rfl)
  obtain ⟨K, hK⟩ : ∃ K, K = 32 - L.length := ⟨_, rfl⟩
  have HE := Lib.hid (show wordOf (.str L) = some (padW L) by show (if _ then _ else _) = _; rw [if_pos ⟨h, h0⟩])
  have HP := Lib.hid (show bc 32 (wr (fun _ => 0) K L) = wv (padW L) by rw [hK]; exact wv_pad h)
  have HK := Lib.hid (show K + L.length = 32 by omega)
  have HV := Lib.hid hv
  clear hv h h0 hK hL
  obtain ⟨z, hz, hz0⟩ : ∃ z, z = (bc 32 fun _ => 0) ∧ (Tryz.prog.info? 23).bind (·.zero) = some (.agg z) := ⟨_, rfl, word_zero⟩
  have HZ := Lib.hid (And.intro hz hz0)
  clear hz hz0
  go_enter Tryz.func94, Tryz.ntmps94
  go_upto_region 2 with (first
    | (refine st_box (L := []) hS rfl 68 _ rfl rfl ?_; clear hS; intro w1 b1 hS)
    | (refine st_new (L := [(b1, 68, #[.bool false, .slice p L.length c, yl])]) hS rfl 23 rfl HZ.out.2 ?_; clear hS; intro w2 b2 hS)
    | (refine st_new (L := [(b2, 23, z), (b1, 68, #[.bool false, .slice p L.length c, yl])]) hS rfl 23 rfl HZ.out.2 ?_; clear hS; intro w4 b4 hS))
  have d0 : w4.cell? ⟨b1, 0, none⟩ = some (.bool false) := (hS.get (.tail (.tail .head))).cell (j := 0) rfl
  have d1 : w4.cell? ⟨b1, 1, none⟩ = some (.slice p L.length c) := (hS.get (.tail (.tail .head))).cell (j := 1) rfl
  refine k_seq (C := fun w' => w' = w4) rfl ?_
  refine k_fld rfl _ _ _ rfl rfl (item_f0 _) ?_; try simp only [Act.put, List.setIfInBounds_toArray, List.set_cons_zero, List.set_cons_succ]
  refine k_cellC rfl _ _ rfl rfl (by rintro w' rfl; exact d0) bool_aggN ?_; try simp only [Act.put, List.setIfInBounds_toArray, List.set_cons_zero, List.set_cons_succ]
  refine k_boolm rfl _ rfl rfl ?_; try simp only [Act.put, List.setIfInBounds_toArray, List.set_cons_zero, List.set_cons_succ]
  refine k_fld rfl _ _ _ rfl rfl (item_f1 _) ?_; try simp only [Act.put, List.setIfInBounds_toArray, List.set_cons_zero, List.set_cons_succ]
  refine k_cellC rfl _ _ rfl rfl (by rintro w' rfl; exact d1) bytes_aggN ?_; try simp only [Act.put, List.setIfInBounds_toArray, List.set_cons_zero, List.set_cons_succ]
  refine k_lenSl rfl _ rfl rfl ?_; try simp only [Act.put, List.setIfInBounds_toArray, List.set_cons_zero, List.set_cons_succ]
  refine k_gtr rfl _ _ _ rfl rfl rfl (decide_eq_false (by have h := HN.out; omega)) ?_; try simp only [Act.put, List.setIfInBounds_toArray, List.set_cons_zero, List.set_cons_succ]
  refine k_pickF rfl _ _ _ rfl rfl rfl ?_; try simp only [Act.put, List.setIfInBounds_toArray, List.set_cons_zero, List.set_cons_succ]
  refine k_boolm rfl _ rfl rfl ?_; try simp only [Act.put, List.setIfInBounds_toArray, List.set_cons_zero, List.set_cons_succ]
  refine k_fld rfl _ _ _ rfl rfl (item_f1 _) ?_; try simp only [Act.put, List.setIfInBounds_toArray, List.set_cons_zero, List.set_cons_succ]
  refine k_cellC rfl _ _ rfl rfl (by rintro w' rfl; exact d1) bytes_aggN ?_; try simp only [Act.put, List.setIfInBounds_toArray, List.set_cons_zero, List.set_cons_succ]
  refine k_lenSl rfl _ rfl rfl ?_; try simp only [Act.put, List.setIfInBounds_toArray, List.set_cons_zero, List.set_cons_succ]
  refine k_gtr rfl _ _ _ rfl rfl rfl (decide_eq_false (by have h := HN.out; omega)) ?_; try simp only [Act.put, List.setIfInBounds_toArray, List.set_cons_zero, List.set_cons_succ]
  refine k_boolm rfl _ rfl rfl ?_; try simp only [Act.put, List.setIfInBounds_toArray, List.set_cons_zero, List.set_cons_succ]
  refine k_skip rfl rfl rfl rfl rfl ?_; try simp only [Act.put, List.setIfInBounds_toArray, List.set_cons_zero, List.set_cons_succ]
  refine k_skip rfl rfl rfl rfl rfl ?_; try simp only [Act.put, List.setIfInBounds_toArray, List.set_cons_zero, List.set_cons_succ]
  refine k_skip rfl rfl rfl rfl rfl ?_; try simp only [Act.put, List.setIfInBounds_toArray, List.set_cons_zero, List.set_cons_succ]
  refine k_skip rfl rfl rfl rfl rfl ?_; try simp only [Act.put, List.setIfInBounds_toArray, List.set_cons_zero, List.set_cons_succ]
  refine k_skip rfl rfl rfl rfl rfl ?_; try simp only [Act.put, List.setIfInBounds_toArray, List.set_cons_zero, List.set_cons_succ]
  refine k_pickF rfl _ _ _ rfl rfl rfl ?_; try simp only [Act.put, List.setIfInBounds_toArray, List.set_cons_zero, List.set_cons_succ]
  refine k_pickF rfl _ _ _ rfl rfl rfl ?_; try simp only [Act.put, List.setIfInBounds_toArray, List.set_cons_zero, List.set_cons_succ]
  refine k_end ?_
  rintro w5 rfl
  rw [HZ.out.1] at hS
  go_upto_region 4 with fail
  have hsl : ∀ w, (Instr.sliceAt 23 (.pointer (some ⟨b4, 0, none⟩)) (some (.int .i64 (K : Int))) none none).run Tryz.prog w = .ok (.slice (ap b4 K) L.length L.length) w := by
    have h1 := arr_fromL b4 K (by have h := HK.out; omega)
    rw [show 32 - K = L.length by have h := HK.out; omega] at h1
    exact h1
  refine k_region_head (C := fun w' => St [] w w' [(b4, 23, bc 32 fun _ => 0), (b2, 23, bc 32 fun _ => 0), (b1, 68, #[.bool false, .slice p L.length c, yl])]) 7 (by kernel_rfl) (by kernel_rfl) hS.drew ?_
  simp only [List.take_succ_cons, List.take_zero, List.drop_succ_cons, List.drop_zero]
  refine k_fld rfl _ _ _ rfl rfl (item_f1 _) ?_; try simp only [Act.put, List.setIfInBounds_toArray, List.set_cons_zero, List.set_cons_succ]
  refine k_cellC rfl _ _ rfl rfl (fun w' h => (h.get (.tail (.tail .head))).cell (j := 1) rfl) bytes_aggN ?_; try simp only [Act.put, List.setIfInBounds_toArray, List.set_cons_zero, List.set_cons_succ]
  refine k_lenSl rfl _ rfl rfl ?_; try simp only [Act.put, List.setIfInBounds_toArray, List.set_cons_zero, List.set_cons_succ]
  refine k_sub (s := ((K : Nat) : Int)) rfl _ _ _ _ rfl rfl rfl (by have h := HK.out; rw [IntKind.wrap_i64]; omega) ?_; try simp only [Act.put, List.setIfInBounds_toArray, List.set_cons_zero, List.set_cons_succ]
  refine k_slc rfl _ _ _ rfl rfl rfl hsl ?_; try simp only [Act.put, List.setIfInBounds_toArray, List.set_cons_zero, List.set_cons_succ]
  refine k_fld rfl _ _ _ rfl rfl (item_f1 _) ?_; try simp only [Act.put, List.setIfInBounds_toArray, List.set_cons_zero, List.set_cons_succ]
  refine k_cellC rfl _ _ rfl rfl (fun w' h => (h.get (.tail (.tail .head))).cell (j := 1) rfl) bytes_aggN ?_; try simp only [Act.put, List.setIfInBounds_toArray, List.set_cons_zero, List.set_cons_succ]
  refine k_end ?_
  clear hS hsl
  intro w7 hS
  go_wp2_with (first
    | (refine copy_bytes (l := L) (at_ := K) (f := fun _ => 0) (t := 23) (n0 := 32) (b := b4) (hS.get .head) rfl (.tmp 31) (.tmp 33) rfl rfl (fun hne => ap_lt b4 (by have h := HK.out; have h2 : 0 < L.length := List.length_pos_iff.2 hne; omega)) rfl (HV.out.tch hS.frame).rdB (by have h := HK.out; omega) ?_; intro w8 hB8 hO8; replace hS := hS.upd .head hO8 hB8; rw [HP.out] at hS; clear hB8 hO8)
    | (refine st_load (b := b4) hS rfl 23 _ rfl rfl .head wordN_type rfl wordN_size (bc_size _ _) ?_)
    | (refine st_store (b := b2) (c' := wv (padW L)) hS rfl 23 _ _ rfl rfl rfl (by repeat (first | exact Upd.head | apply Upd.tail)) wordN_size (bc_size _ _) (bc_size _ _) (bc_one _ _) ?_; clear hS; intro w6 hS))
  refine post_cell_one 2 3 23 rfl rfl rfl rfl (hS.get (.tail .head)) wordN_type rfl wordN_size (bc_size _ _) ?_
  exact ⟨by rw [HE.out]; rfl, hS.frame⟩
theorem pword_any (yb yl : Value) (L : List Nat) (w : World) (hv : RdA [] w yb L) : Calls Tryz.prog 94 #[.agg #[.bool false, yb, yl]] w (WordPost (.str L) w) := by
  by_cases h : L.length ≤ 32
  · cases L with
    | nil => exact pword_none yb yl [] w hv rfl
    | cons y r =>
      by_cases hy : y = 0
      · subst hy; exact pword_zero yb yl r w hv h
      · exact pword_some yb yl (y :: r) w hv (by simp) h (by simp [hy])
  · exact pword_long yb yl L w hv (by omega)
set_option maxHeartbeats 2000000 in
set_option maxRecDepth 100000 in
theorem rword_lst (yb yl : Value) (its : List It) (w : World) : Calls Tryz.prog 36 #[.agg #[.bool true, yb, yl]] w (WordPost (.lst its) w) := by
  have hS := St.start w
  obtain ⟨z, hz, hz0⟩ : ∃ z, z = (bc 32 fun _ => 0) ∧ (Tryz.prog.info? 23).bind (·.zero) = some (.agg z) := ⟨_, rfl, word_zero⟩
  have HZ := Lib.hid (And.intro hz hz0)
  clear hz hz0
  go_enter Tryz.func36, Tryz.ntmps36
  go_upto_region 2 with (first
    | (refine st_box (L := []) hS rfl 68 _ rfl rfl ?_; clear hS; intro w1 b1 hS)
    | (refine st_new (L := [(b1, 68, #[.bool true, yb, yl])]) hS rfl 23 rfl HZ.out.2 ?_; clear hS; intro w2 b2 hS)
    | (refine st_new (L := [(b2, 23, z), (b1, 68, #[.bool true, yb, yl])]) hS rfl 23 rfl HZ.out.2 ?_; clear hS; intro w4 b4 hS))
  have d0 : w4.cell? ⟨b1, 0, none⟩ = some (.bool true) := (hS.get (.tail (.tail .head))).cell (j := 0) rfl
  refine k_seq (C := fun w' => w' = w4) rfl ?_
  refine k_fld rfl _ _ _ rfl rfl (item_f0 _) ?_; try simp only [Act.put, List.setIfInBounds_toArray, List.set_cons_zero, List.set_cons_succ]
  refine k_cellC rfl _ _ rfl rfl (by rintro w' rfl; exact d0) bool_aggN ?_; try simp only [Act.put, List.setIfInBounds_toArray, List.set_cons_zero, List.set_cons_succ]
  refine k_boolm rfl _ rfl rfl ?_; try simp only [Act.put, List.setIfInBounds_toArray, List.set_cons_zero, List.set_cons_succ]
  refine k_skip rfl rfl rfl rfl rfl ?_; try simp only [Act.put, List.setIfInBounds_toArray, List.set_cons_zero, List.set_cons_succ]
  refine k_skip rfl rfl rfl rfl rfl ?_; try simp only [Act.put, List.setIfInBounds_toArray, List.set_cons_zero, List.set_cons_succ]
  refine k_skip rfl rfl rfl rfl rfl ?_; try simp only [Act.put, List.setIfInBounds_toArray, List.set_cons_zero, List.set_cons_succ]
  refine k_skip rfl rfl rfl rfl rfl ?_; try simp only [Act.put, List.setIfInBounds_toArray, List.set_cons_zero, List.set_cons_succ]
  refine k_pickT rfl _ _ _ rfl rfl rfl ?_; try simp only [Act.put, List.setIfInBounds_toArray, List.set_cons_zero, List.set_cons_succ]
  refine k_boolm rfl _ rfl rfl ?_; try simp only [Act.put, List.setIfInBounds_toArray, List.set_cons_zero, List.set_cons_succ]
  refine k_skip rfl rfl rfl rfl rfl ?_; try simp only [Act.put, List.setIfInBounds_toArray, List.set_cons_zero, List.set_cons_succ]
  refine k_skip rfl rfl rfl rfl rfl ?_; try simp only [Act.put, List.setIfInBounds_toArray, List.set_cons_zero, List.set_cons_succ]
  refine k_skip rfl rfl rfl rfl rfl ?_; try simp only [Act.put, List.setIfInBounds_toArray, List.set_cons_zero, List.set_cons_succ]
  refine k_skip rfl rfl rfl rfl rfl ?_; try simp only [Act.put, List.setIfInBounds_toArray, List.set_cons_zero, List.set_cons_succ]
  refine k_skip rfl rfl rfl rfl rfl ?_; try simp only [Act.put, List.setIfInBounds_toArray, List.set_cons_zero, List.set_cons_succ]
  refine k_skipN rfl ?_; try simp only [Act.put, List.setIfInBounds_toArray, List.set_cons_zero, List.set_cons_succ]
  refine k_skipN rfl ?_; try simp only [Act.put, List.setIfInBounds_toArray, List.set_cons_zero, List.set_cons_succ]
  refine k_skipN rfl ?_; try simp only [Act.put, List.setIfInBounds_toArray, List.set_cons_zero, List.set_cons_succ]
  refine k_skipN rfl ?_; try simp only [Act.put, List.setIfInBounds_toArray, List.set_cons_zero, List.set_cons_succ]
  refine k_skipN rfl ?_; try simp only [Act.put, List.setIfInBounds_toArray, List.set_cons_zero, List.set_cons_succ]
  refine k_skip rfl rfl rfl rfl rfl ?_; try simp only [Act.put, List.setIfInBounds_toArray, List.set_cons_zero, List.set_cons_succ]
  refine k_pickT rfl _ _ _ rfl rfl rfl ?_; try simp only [Act.put, List.setIfInBounds_toArray, List.set_cons_zero, List.set_cons_succ]
  refine k_end ?_
  rintro w5 rfl
  rw [HZ.out.1] at hS
  go_wp2_with (first
    | (refine st_load (b := b4) hS rfl 23 _ rfl rfl .head wordN_type rfl wordN_size (bc_size _ _) ?_)
    | (refine st_store (b := b2) (c' := bc 32 fun _ => 0) hS rfl 23 _ _ rfl rfl rfl (by repeat (first | exact Upd.head | apply Upd.tail)) wordN_size (bc_size _ _) (bc_size _ _) (bc_one _ _) ?_; clear hS; intro w6 hS))
  refine post_cell_one 2 3 23 rfl rfl rfl rfl (hS.get (.tail .head)) wordN_type rfl wordN_size (bc_size _ _) ?_
  exact ⟨by rw [wv_zero]; rfl, hS.frame⟩
set_option maxHeartbeats 2000000 in
set_option maxRecDepth 100000 in
theorem rword_long (yb yl : Value) (L : List Nat) (w : World) (hv : RdA [] w yb L) (h : 32 < L.length) : Calls Tryz.prog 36 #[.agg #[.bool false, yb, yl]] w (WordPost (.str L) w) := by
  have hS := St.start w
  obtain ⟨p, n, c, rfl⟩ := slice_keep hv
  have hlen := hv.len
  have HN := Lib.hid (show 32 < n by omega)
  have HE := Lib.hid (show wordOf (.str L) = none by show (if _ then _ else _) = _; rw [if_neg (fun h' => by omega)])
  clear hv hlen h
  obtain ⟨z, hz, hz0⟩ : ∃ z, z = (bc 32 fun _ => 0) ∧ (Tryz.prog.info? 23).bind (·.zero) = some (.agg z) := ⟨_, rfl, word_zero⟩
  have HZ := Lib.hid (And.intro hz hz0)
  clear hz hz0
  go_enter Tryz.func36, Tryz.ntmps36
  go_upto_region 2 with (first
    | (refine st_box (L := []) hS rfl 68 _ rfl rfl ?_; clear hS; intro w1 b1 hS)
    | (refine st_new (L := [(b1, 68, #[.bool false, .slice p n c, yl])]) hS rfl 23 rfl HZ.out.2 ?_; clear hS; intro w2 b2 hS)
    | (refine st_new (L := [(b2, 23, z), (b1, 68, #[.bool false, .slice p n c, yl])]) hS rfl 23 rfl HZ.out.2 ?_; clear hS; intro w4 b4 hS))
  have d0 : w4.cell? ⟨b1, 0, none⟩ = some (.bool false) := (hS.get (.tail (.tail .head))).cell (j := 0) rfl
  have d1 : w4.cell? ⟨b1, 1, none⟩ = some (.slice p n c) := (hS.get (.tail (.tail .head))).cell (j := 1) rfl
  refine k_seq (C := fun w' => w' = w4) rfl ?_
  refine k_fld rfl _ _ _ rfl rfl (item_f0 _) ?_; try simp only [Act.put, List.setIfInBounds_toArray, List.set_cons_zero, List.set_cons_succ]
  refine k_cellC rfl _ _ rfl rfl (by rintro w' rfl; exact d0) bool_aggN ?_; try simp only [Act.put, List.setIfInBounds_toArray, List.set_cons_zero, List.set_cons_succ]
  refine k_boolm rfl _ rfl rfl ?_; try simp only [Act.put, List.setIfInBounds_toArray, List.set_cons_zero, List.set_cons_succ]
  refine k_fld rfl _ _ _ rfl rfl (item_f1 _) ?_; try simp only [Act.put, List.setIfInBounds_toArray, List.set_cons_zero, List.set_cons_succ]
  refine k_cellC rfl _ _ rfl rfl (by rintro w' rfl; exact d1) bytes_aggN ?_; try simp only [Act.put, List.setIfInBounds_toArray, List.set_cons_zero, List.set_cons_succ]
  refine k_lenSl rfl _ rfl rfl ?_; try simp only [Act.put, List.setIfInBounds_toArray, List.set_cons_zero, List.set_cons_succ]
  refine k_gtr rfl _ _ _ rfl rfl rfl (decide_eq_true (by have h := HN.out; omega)) ?_; try simp only [Act.put, List.setIfInBounds_toArray, List.set_cons_zero, List.set_cons_succ]
  refine k_pickF rfl _ _ _ rfl rfl rfl ?_; try simp only [Act.put, List.setIfInBounds_toArray, List.set_cons_zero, List.set_cons_succ]
  refine k_boolm rfl _ rfl rfl ?_; try simp only [Act.put, List.setIfInBounds_toArray, List.set_cons_zero, List.set_cons_succ]
  refine k_skip rfl rfl rfl rfl rfl ?_; try simp only [Act.put, List.setIfInBounds_toArray, List.set_cons_zero, List.set_cons_succ]
  refine k_skip rfl rfl rfl rfl rfl ?_; try simp only [Act.put, List.setIfInBounds_toArray, List.set_cons_zero, List.set_cons_succ]
  refine k_skip rfl rfl rfl rfl rfl ?_; try simp only [Act.put, List.setIfInBounds_toArray, List.set_cons_zero, List.set_cons_succ]
  refine k_skip rfl rfl rfl rfl rfl ?_; try simp only [Act.put, List.setIfInBounds_toArray, List.set_cons_zero, List.set_cons_succ]
  refine k_skip rfl rfl rfl rfl rfl ?_; try simp only [Act.put, List.setIfInBounds_toArray, List.set_cons_zero, List.set_cons_succ]
  refine k_skipN rfl ?_; try simp only [Act.put, List.setIfInBounds_toArray, List.set_cons_zero, List.set_cons_succ]
  refine k_skipN rfl ?_; try simp only [Act.put, List.setIfInBounds_toArray, List.set_cons_zero, List.set_cons_succ]
  refine k_skipN rfl ?_; try simp only [Act.put, List.setIfInBounds_toArray, List.set_cons_zero, List.set_cons_succ]
  refine k_skipN rfl ?_; try simp only [Act.put, List.setIfInBounds_toArray, List.set_cons_zero, List.set_cons_succ]
  refine k_skipN rfl ?_; try simp only [Act.put, List.setIfInBounds_toArray, List.set_cons_zero, List.set_cons_succ]
  refine k_skip rfl rfl rfl rfl rfl ?_; try simp only [Act.put, List.setIfInBounds_toArray, List.set_cons_zero, List.set_cons_succ]
  refine k_pickT rfl _ _ _ rfl rfl rfl ?_; try simp only [Act.put, List.setIfInBounds_toArray, List.set_cons_zero, List.set_cons_succ]
  refine k_end ?_
  rintro w5 rfl
  rw [HZ.out.1] at hS
  go_wp2_with (first
    | (refine st_load (b := b4) hS rfl 23 _ rfl rfl .head wordN_type rfl wordN_size (bc_size _ _) ?_)
    | (refine st_store (b := b2) (c' := bc 32 fun _ => 0) hS rfl 23 _ _ rfl rfl rfl (by repeat (first | exact Upd.head | apply Upd.tail)) wordN_size (bc_size _ _) (bc_size _ _) (bc_one _ _) ?_; clear hS; intro w6 hS))
  refine post_cell_one 2 3 23 rfl rfl rfl rfl (hS.get (.tail .head)) wordN_type rfl wordN_size (bc_size _ _) ?_
  exact ⟨by rw [HE.out, wv_zero]; rfl, hS.frame⟩
set_option maxHeartbeats 2000000 in
set_option maxRecDepth 100000 in
theorem rword_zero (yb yl : Value) (r : List Nat) (w : World) (hv : RdA [] w yb (0 :: r)) (h : (0 :: r).length ≤ 32) : Calls Tryz.prog 36 #[.agg #[.bool false, yb, yl]] w (WordPost (.str (0 :: r)) w) := by
  have hS := St.start w
  obtain ⟨p, n, c, rfl⟩ := slice_keep hv
  have hlen := hv.len
  obtain ⟨b, o, rfl, hbw, hc⟩ := at_ofN hv (by simp)
  have hc0 := hc 0 (by simp)
  rw [Nat.add_zero] at hc0
  simp only [List.getD_cons_zero] at hc0
  have HC := Lib.hid (fun (w' : World) (h : Tch [] w w') => (h.cell (p := ⟨b, o, none⟩) hbw (by simp)).trans hc0)
  have HN := Lib.hid (show 0 < n ∧ n ≤ 32 by simp only [List.length_cons] at hlen h; omega)
  have HE := Lib.hid (show wordOf (.str (0 :: r)) = none by show (if _ then _ else _) = _; rw [if_neg (fun h' => h'.2 rfl)])
  clear hv hlen h hc hc0
  obtain ⟨z, hz, hz0⟩ : ∃ z, z = (bc 32 fun _ => 0) ∧ (Tryz.prog.info? 23).bind (·.zero) = some (.agg z) := ⟨_, rfl, word_zero⟩
  have HZ := Lib.hid (And.intro hz hz0)
  clear hz hz0
  go_enter Tryz.func36, Tryz.ntmps36
  go_upto_region 2 with (first
    | (refine st_box (L := []) hS rfl 68 _ rfl rfl ?_; clear hS; intro w1 b1 hS)
    | (refine st_new (L := [(b1, 68, #[.bool false, .slice (some ⟨b, o, none⟩) n c, yl])]) hS rfl 23 rfl HZ.out.2 ?_; clear hS; intro w2 b2 hS)
    | (refine st_new (L := [(b2, 23, z), (b1, 68, #[.bool false, .slice (some ⟨b, o, none⟩) n c, yl])]) hS rfl 23 rfl HZ.out.2 ?_; clear hS; intro w4 b4 hS))
  have d0 : w4.cell? ⟨b1, 0, none⟩ = some (.bool false) := (hS.get (.tail (.tail .head))).cell (j := 0) rfl
  have d1 : w4.cell? ⟨b1, 1, none⟩ = some (.slice (some ⟨b, o, none⟩) n c) := (hS.get (.tail (.tail .head))).cell (j := 1) rfl
  have d2 := HC.out _ hS.frame
  refine k_seq (C := fun w' => w' = w4) rfl ?_
  refine k_fld rfl _ _ _ rfl rfl (item_f0 _) ?_; try simp only [Act.put, List.setIfInBounds_toArray, List.set_cons_zero, List.set_cons_succ]
  refine k_cellC rfl _ _ rfl rfl (by rintro w' rfl; exact d0) bool_aggN ?_; try simp only [Act.put, List.setIfInBounds_toArray, List.set_cons_zero, List.set_cons_succ]
  refine k_boolm rfl _ rfl rfl ?_; try simp only [Act.put, List.setIfInBounds_toArray, List.set_cons_zero, List.set_cons_succ]
  refine k_fld rfl _ _ _ rfl rfl (item_f1 _) ?_; try simp only [Act.put, List.setIfInBounds_toArray, List.set_cons_zero, List.set_cons_succ]
  refine k_cellC rfl _ _ rfl rfl (by rintro w' rfl; exact d1) bytes_aggN ?_; try simp only [Act.put, List.setIfInBounds_toArray, List.set_cons_zero, List.set_cons_succ]
  refine k_lenSl rfl _ rfl rfl ?_; try simp only [Act.put, List.setIfInBounds_toArray, List.set_cons_zero, List.set_cons_succ]
  refine k_gtr rfl _ _ _ rfl rfl rfl (decide_eq_false (by have h := HN.out; omega)) ?_; try simp only [Act.put, List.setIfInBounds_toArray, List.set_cons_zero, List.set_cons_succ]
  refine k_pickF rfl _ _ _ rfl rfl rfl ?_; try simp only [Act.put, List.setIfInBounds_toArray, List.set_cons_zero, List.set_cons_succ]
  refine k_boolm rfl _ rfl rfl ?_; try simp only [Act.put, List.setIfInBounds_toArray, List.set_cons_zero, List.set_cons_succ]
  refine k_fld rfl _ _ _ rfl rfl (item_f1 _) ?_; try simp only [Act.put, List.setIfInBounds_toArray, List.set_cons_zero, List.set_cons_succ]
  refine k_cellC rfl _ _ rfl rfl (by rintro w' rfl; exact d1) bytes_aggN ?_; try simp only [Act.put, List.setIfInBounds_toArray, List.set_cons_zero, List.set_cons_succ]
  refine k_lenSl rfl _ rfl rfl ?_; try simp only [Act.put, List.setIfInBounds_toArray, List.set_cons_zero, List.set_cons_succ]
  refine k_gtr rfl _ _ _ rfl rfl rfl (decide_eq_true (by have h := HN.out; omega)) ?_; try simp only [Act.put, List.setIfInBounds_toArray, List.set_cons_zero, List.set_cons_succ]
  refine k_boolm rfl _ rfl rfl ?_; try simp only [Act.put, List.setIfInBounds_toArray, List.set_cons_zero, List.set_cons_succ]
  refine k_fld rfl _ _ _ rfl rfl (item_f1 _) ?_; try simp only [Act.put, List.setIfInBounds_toArray, List.set_cons_zero, List.set_cons_succ]
  refine k_cellC rfl _ _ rfl rfl (by rintro w' rfl; exact d1) bytes_aggN ?_; try simp only [Act.put, List.setIfInBounds_toArray, List.set_cons_zero, List.set_cons_succ]
  refine k_idxSl (j := 0) rfl _ _ _ rfl rfl rfl bytes_ty u8_size (by have h := HN.out; omega) ?_; try simp only [Act.put, List.setIfInBounds_toArray, List.set_cons_zero, List.set_cons_succ]
  refine k_cellC rfl _ _ rfl rfl (by rintro w' rfl; exact d2) u8_aggN ?_; try simp only [Act.put, List.setIfInBounds_toArray, List.set_cons_zero, List.set_cons_succ]
  refine k_eq8 (t := true) rfl _ _ _ rfl rfl rfl (rfl) ?_; try simp only [Act.put, List.setIfInBounds_toArray, List.set_cons_zero, List.set_cons_succ]
  refine k_pickT rfl _ _ _ rfl rfl rfl ?_; try simp only [Act.put, List.setIfInBounds_toArray, List.set_cons_zero, List.set_cons_succ]
  refine k_pickF rfl _ _ _ rfl rfl rfl ?_; try simp only [Act.put, List.setIfInBounds_toArray, List.set_cons_zero, List.set_cons_succ]
  refine k_end ?_
  rintro w5 rfl
  rw [HZ.out.1] at hS
  go_wp2_with (first
    | (refine st_load (b := b4) hS rfl 23 _ rfl rfl .head wordN_type rfl wordN_size (bc_size _ _) ?_)
    | (refine st_store (b := b2) (c' := bc 32 fun _ => 0) hS rfl 23 _ _ rfl rfl rfl (by repeat (first | exact Upd.head | apply Upd.tail)) wordN_size (bc_size _ _) (bc_size _ _) (bc_one _ _) ?_; clear hS; intro w6 hS))
  refine post_cell_one 2 3 23 rfl rfl rfl rfl (hS.get (.tail .head)) wordN_type rfl wordN_size (bc_size _ _) ?_
  exact ⟨by rw [HE.out, wv_zero]; rfl, hS.frame⟩
set_option maxHeartbeats 2000000 in
set_option maxRecDepth 100000 in
theorem rword_some (yb yl : Value) (L : List Nat) (w : World) (hv : RdA [] w yb L) (hne : L ≠ []) (h : L.length ≤ 32) (h0 : L.head? ≠ some 0) : Calls Tryz.prog 36 #[.agg #[.bool false, yb, yl]] w (WordPost (.str L) w) := by
  have hS := St.start w
  obtain ⟨p, n, c, rfl⟩ := slice_keep hv
  obtain rfl := hv.len
  obtain ⟨b, o, rfl, hbw, hc⟩ := at_ofN hv hne
  have hpos := List.length_pos_iff.2 hne
  have hc0 := hc 0 hpos
  rw [Nat.add_zero] at hc0
  have HX := Lib.hid (show (((L.getD 0 0 : Nat) : Int) == 0) = false by
    cases L with
    | nil => exact absurd rfl hne
    | cons y r => simp at h0; simp; omega)
  have HC := Lib.hid (fun (w' : World) (h : Tch [] w w') => (h.cell (p := ⟨b, o, none⟩) hbw (by simp)).trans hc0)
  have HN := Lib.hid (show 0 < L.length ∧ L.length ≤ 32 from ⟨hpos, h⟩)
  obtain ⟨K, hK⟩ : ∃ K, K = 32 - L.length := ⟨_, rfl⟩
  have HE := Lib.hid (show wordOf (.str L) = some (padW L) by show (if _ then _ else _) = _; rw [if_pos ⟨h, h0⟩])
  have HP := Lib.hid (show bc 32 (wr (fun _ => 0) K L) = wv (padW L) by rw [hK]; exact wv_pad h)
  have HK := Lib.hid (show K + L.length = 32 by omega)
  have HV := Lib.hid hv
  clear hv h h0 hne hpos hc hc0 hK
  obtain ⟨z, hz, hz0⟩ : ∃ z, z = (bc 32 fun _ => 0) ∧ (Tryz.prog.info? 23).bind (·.zero) = some (.agg z) := ⟨_, rfl, word_zero⟩
  have HZ := Lib.hid (And.intro hz hz0)
  clear hz hz0
  go_enter Tryz.func36, Tryz.ntmps36
  go_upto_region 2 with (first
    | (refine st_box (L := []) hS rfl 68 _ rfl rfl ?_; clear hS; intro w1 b1 hS)
    | (refine st_new (L := [(b1, 68, #[.bool false, .slice (some ⟨b, o, none⟩) L.length c, yl])]) hS rfl 23 rfl HZ.out.2 ?_; clear hS; intro w2 b2 hS)
    | (refine st_new (L := [(b2, 23, z), (b1, 68, #[.bool false, .slice (some ⟨b, o, none⟩) L.length c, yl])]) hS rfl 23 rfl HZ.out.2 ?_; clear hS; intro w4 b4 hS))
  have d0 : w4.cell? ⟨b1, 0, none⟩ = some (.bool false) := (hS.get (.tail (.tail .head))).cell (j := 0) rfl
  have d1 : w4.cell? ⟨b1, 1, none⟩ = some (.slice (some ⟨b, o, none⟩) L.length c) := (hS.get (.tail (.tail .head))).cell (j := 1) rfl
  have d2 := HC.out _ hS.frame
  refine k_seq (C := fun w' => w' = w4) rfl ?_
  refine k_fld rfl _ _ _ rfl rfl (item_f0 _) ?_; try simp only [Act.put, List.setIfInBounds_toArray, List.set_cons_zero, List.set_cons_succ]
  refine k_cellC rfl _ _ rfl rfl (by rintro w' rfl; exact d0) bool_aggN ?_; try simp only [Act.put, List.setIfInBounds_toArray, List.set_cons_zero, List.set_cons_succ]
  refine k_boolm rfl _ rfl rfl ?_; try simp only [Act.put, List.setIfInBounds_toArray, List.set_cons_zero, List.set_cons_succ]
  refine k_fld rfl _ _ _ rfl rfl (item_f1 _) ?_; try simp only [Act.put, List.setIfInBounds_toArray, List.set_cons_zero, List.set_cons_succ]
  refine k_cellC rfl _ _ rfl rfl (by rintro w' rfl; exact d1) bytes_aggN ?_; try simp only [Act.put, List.setIfInBounds_toArray, List.set_cons_zero, List.set_cons_succ]
  refine k_lenSl rfl _ rfl rfl ?_; try simp only [Act.put, List.setIfInBounds_toArray, List.set_cons_zero, List.set_cons_succ]
  refine k_gtr rfl _ _ _ rfl rfl rfl (decide_eq_false (by have h := HN.out; omega)) ?_; try simp only [Act.put, List.setIfInBounds_toArray, List.set_cons_zero, List.set_cons_succ]
  refine k_pickF rfl _ _ _ rfl rfl rfl ?_; try simp only [Act.put, List.setIfInBounds_toArray, List.set_cons_zero, List.set_cons_succ]
  refine k_boolm rfl _ rfl rfl ?_; try simp only [Act.put, List.setIfInBounds_toArray, List.set_cons_zero, List.set_cons_succ]
  refine k_fld rfl _ _ _ rfl rfl (item_f1 _) ?_; try simp only [Act.put, List.setIfInBounds_toArray, List.set_cons_zero, List.set_cons_succ]
  refine k_cellC rfl _ _ rfl rfl (by rintro w' rfl; exact d1) bytes_aggN ?_; try simp only [Act.put, List.setIfInBounds_toArray, List.set_cons_zero, List.set_cons_succ]
  refine k_lenSl rfl _ rfl rfl ?_; try simp only [Act.put, List.setIfInBounds_toArray, List.set_cons_zero, List.set_cons_succ]
  refine k_gtr rfl _ _ _ rfl rfl rfl (decide_eq_true (by have h := HN.out; omega)) ?_; try simp only [Act.put, List.setIfInBounds_toArray, List.set_cons_zero, List.set_cons_succ]
  refine k_boolm rfl _ rfl rfl ?_; try simp only [Act.put, List.setIfInBounds_toArray, List.set_cons_zero, List.set_cons_succ]
  refine k_fld rfl _ _ _ rfl rfl (item_f1 _) ?_; try simp only [Act.put, List.setIfInBounds_toArray, List.set_cons_zero, List.set_cons_succ]
  refine k_cellC rfl _ _ rfl rfl (by rintro w' rfl; exact d1) bytes_aggN ?_; try simp only [Act.put, List.setIfInBounds_toArray, List.set_cons_zero, List.set_cons_succ]
  refine k_idxSl (j := 0) rfl _ _ _ rfl rfl rfl bytes_ty u8_size (by have h := HN.out; omega) ?_; try simp only [Act.put, List.setIfInBounds_toArray, List.set_cons_zero, List.set_cons_succ]
  refine k_cellC rfl _ _ rfl rfl (by rintro w' rfl; exact d2) u8_aggN ?_; try simp only [Act.put, List.setIfInBounds_toArray, List.set_cons_zero, List.set_cons_succ]
  refine k_eq8 (t := false) rfl _ _ _ rfl rfl rfl (HX.out) ?_; try simp only [Act.put, List.setIfInBounds_toArray, List.set_cons_zero, List.set_cons_succ]
  refine k_pickT rfl _ _ _ rfl rfl rfl ?_; try simp only [Act.put, List.setIfInBounds_toArray, List.set_cons_zero, List.set_cons_succ]
  refine k_pickF rfl _ _ _ rfl rfl rfl ?_; try simp only [Act.put, List.setIfInBounds_toArray, List.set_cons_zero, List.set_cons_succ]
  refine k_end ?_
  rintro w5 rfl
  rw [HZ.out.1] at hS
  go_upto_region 4 with fail
  have hsl : ∀ w, (Instr.sliceAt 23 (.pointer (some ⟨b4, 0, none⟩)) (some (.int .i64 (K : Int))) none none).run Tryz.prog w = .ok (.slice (ap b4 K) L.length L.length) w := by
    have h1 := arr_fromL b4 K (by have h := HK.out; omega)
    rw [show 32 - K = L.length by have h := HK.out; omega] at h1
    exact h1
  refine k_region_head (C := fun w' => St [] w w' [(b4, 23, bc 32 fun _ => 0), (b2, 23, bc 32 fun _ => 0), (b1, 68, #[.bool false, .slice (some ⟨b, o, none⟩) L.length c, yl])]) 7 (by kernel_rfl) (by kernel_rfl) hS.drew ?_
  simp only [List.take_succ_cons, List.take_zero, List.drop_succ_cons, List.drop_zero]
  refine k_fld rfl _ _ _ rfl rfl (item_f1 _) ?_; try simp only [Act.put, List.setIfInBounds_toArray, List.set_cons_zero, List.set_cons_succ]
  refine k_cellC rfl _ _ rfl rfl (fun w' h => (h.get (.tail (.tail .head))).cell (j := 1) rfl) bytes_aggN ?_; try simp only [Act.put, List.setIfInBounds_toArray, List.set_cons_zero, List.set_cons_succ]
  refine k_lenSl rfl _ rfl rfl ?_; try simp only [Act.put, List.setIfInBounds_toArray, List.set_cons_zero, List.set_cons_succ]
  refine k_sub (s := ((K : Nat) : Int)) rfl _ _ _ _ rfl rfl rfl (by have h := HK.out; rw [IntKind.wrap_i64]; omega) ?_; try simp only [Act.put, List.setIfInBounds_toArray, List.set_cons_zero, List.set_cons_succ]
  refine k_slc rfl _ _ _ rfl rfl rfl hsl ?_; try simp only [Act.put, List.setIfInBounds_toArray, List.set_cons_zero, List.set_cons_succ]
  refine k_fld rfl _ _ _ rfl rfl (item_f1 _) ?_; try simp only [Act.put, List.setIfInBounds_toArray, List.set_cons_zero, List.set_cons_succ]
  refine k_cellC rfl _ _ rfl rfl (fun w' h => (h.get (.tail (.tail .head))).cell (j := 1) rfl) bytes_aggN ?_; try simp only [Act.put, List.setIfInBounds_toArray, List.set_cons_zero, List.set_cons_succ]
  refine k_end ?_
  clear hS hsl
  intro w7 hS
  go_wp2_with (first
    | (refine copy_bytes (l := L) (at_ := K) (f := fun _ => 0) (t := 23) (n0 := 32) (b := b4) (hS.get .head) rfl (.tmp 31) (.tmp 33) rfl rfl (fun hne => ap_lt b4 (by have h := HK.out; have h2 : 0 < L.length := List.length_pos_iff.2 hne; omega)) rfl (HV.out.tch hS.frame).rdB (by have h := HK.out; omega) ?_; intro w8 hB8 hO8; replace hS := hS.upd .head hO8 hB8; rw [HP.out] at hS; clear hB8 hO8)
    | (refine st_load (b := b4) hS rfl 23 _ rfl rfl .head wordN_type rfl wordN_size (bc_size _ _) ?_)
    | (refine st_store (b := b2) (c' := wv (padW L)) hS rfl 23 _ _ rfl rfl rfl (by repeat (first | exact Upd.head | apply Upd.tail)) wordN_size (bc_size _ _) (bc_size _ _) (bc_one _ _) ?_; clear hS; intro w6 hS))
  refine post_cell_one 2 3 23 rfl rfl rfl rfl (hS.get (.tail .head)) wordN_type rfl wordN_size (bc_size _ _) ?_
  exact ⟨by rw [HE.out]; rfl, hS.frame⟩
set_option maxHeartbeats 2000000 in
set_option maxRecDepth 100000 in
theorem rword_none (yb yl : Value) (L : List Nat) (w : World) (hv : RdA [] w yb L) (hL : L = []) : Calls Tryz.prog 36 #[.agg #[.bool false, yb, yl]] w (WordPost (.str L) w) := by
  have hS := St.start w
  obtain ⟨p, n, c, rfl⟩ := slice_keep hv
  obtain rfl := hv.len
  have h : L.length ≤ 32 := by rw [hL]; decide
  have h0 : L.head? ≠ some 0 := by rw [hL]; decide
  have HN := Lib.hid (show L.length = 0 by rw [hL]; rfl)
  obtain ⟨K, hK⟩ : ∃ K, K = 32 - L.length := ⟨_, rfl⟩
  have HE := Lib.hid (show wordOf (.str L) = some (padW L) by show (if _ then _ else _) = _; rw [if_pos ⟨h, h0⟩])
  have HP := Lib.hid (show bc 32 (wr (fun _ => 0) K L) = wv (padW L) by rw [hK]; exact wv_pad h)
  have HK := Lib.hid (show K + L.length = 32 by omega)
  have HV := Lib.hid hv
  clear hv h h0 hK hL
  obtain ⟨z, hz, hz0⟩ : ∃ z, z = (bc 32 fun _ => 0) ∧ (Tryz.prog.info? 23).bind (·.zero) = some (.agg z) := ⟨_, rfl, word_zero⟩
  have HZ := Lib.hid (And.intro hz hz0)
  clear hz hz0
  go_enter Tryz.func36, Tryz.ntmps36
  go_upto_region 2 with (first
    | (refine st_box (L := []) hS rfl 68 _ rfl rfl ?_; clear hS; intro w1 b1 hS)
    | (refine st_new (L := [(b1, 68, #[.bool false, .slice p L.length c, yl])]) hS rfl 23 rfl HZ.out.2 ?_; clear hS; intro w2 b2 hS)
    | (refine st_new (L := [(b2, 23, z), (b1, 68, #[.bool false, .slice p L.length c, yl])]) hS rfl 23 rfl HZ.out.2 ?_; clear hS; intro w4 b4 hS))
  have d0 : w4.cell? ⟨b1, 0, none⟩ = some (.bool false) := (hS.get (.tail (.tail .head))).cell (j := 0) rfl
  have d1 : w4.cell? ⟨b1, 1, none⟩ = some (.slice p L.length c) := (hS.get (.tail (.tail .head))).cell (j := 1) rfl
  refine k_seq (C := fun w' => w' = w4) rfl ?_
  refine k_fld rfl _ _ _ rfl rfl (item_f0 _) ?_; try simp only [Act.put, List.setIfInBounds_toArray, List.set_cons_zero, List.set_cons_succ]
  refine k_cellC rfl _ _ rfl rfl (by rintro w' rfl; exact d0) bool_aggN ?_; try simp only [Act.put, List.setIfInBounds_toArray, List.set_cons_zero, List.set_cons_succ]
  refine k_boolm rfl _ rfl rfl ?_; try simp only [Act.put, List.setIfInBounds_toArray, List.set_cons_zero, List.set_cons_succ]
  refine k_fld rfl _ _ _ rfl rfl (item_f1 _) ?_; try simp only [Act.put, List.setIfInBounds_toArray, List.set_cons_zero, List.set_cons_succ]
  refine k_cellC rfl _ _ rfl rfl (by rintro w' rfl; exact d1) bytes_aggN ?_; try simp only [Act.put, List.setIfInBounds_toArray, List.set_cons_zero, List.set_cons_succ]
  refine k_lenSl rfl _ rfl rfl ?_; try simp only [Act.put, List.setIfInBounds_toArray, List.set_cons_zero, List.set_cons_succ]
  refine k_gtr rfl _ _ _ rfl rfl rfl (decide_eq_false (by have h := HN.out; omega)) ?_; try simp only [Act.put, List.setIfInBounds_toArray, List.set_cons_zero, List.set_cons_succ]
  refine k_pickF rfl _ _ _ rfl rfl rfl ?_; try simp only [Act.put, List.setIfInBounds_toArray, List.set_cons_zero, List.set_cons_succ]
  refine k_boolm rfl _ rfl rfl ?_; try simp only [Act.put, List.setIfInBounds_toArray, List.set_cons_zero, List.set_cons_succ]
  refine k_fld rfl _ _ _ rfl rfl (item_f1 _) ?_; try simp only [Act.put, List.setIfInBounds_toArray, List.set_cons_zero, List.set_cons_succ]
  refine k_cellC rfl _ _ rfl rfl (by rintro w' rfl; exact d1) bytes_aggN ?_; try simp only [Act.put, List.setIfInBounds_toArray, List.set_cons_zero, List.set_cons_succ]
  refine k_lenSl rfl _ rfl rfl ?_; try simp only [Act.put, List.setIfInBounds_toArray, List.set_cons_zero, List.set_cons_succ]
  refine k_gtr rfl _ _ _ rfl rfl rfl (decide_eq_false (by have h := HN.out; omega)) ?_; try simp only [Act.put, List.setIfInBounds_toArray, List.set_cons_zero, List.set_cons_succ]
  refine k_boolm rfl _ rfl rfl ?_; try simp only [Act.put, List.setIfInBounds_toArray, List.set_cons_zero, List.set_cons_succ]
  refine k_skip rfl rfl rfl rfl rfl ?_; try simp only [Act.put, List.setIfInBounds_toArray, List.set_cons_zero, List.set_cons_succ]
  refine k_skip rfl rfl rfl rfl rfl ?_; try simp only [Act.put, List.setIfInBounds_toArray, List.set_cons_zero, List.set_cons_succ]
  refine k_skip rfl rfl rfl rfl rfl ?_; try simp only [Act.put, List.setIfInBounds_toArray, List.set_cons_zero, List.set_cons_succ]
  refine k_skip rfl rfl rfl rfl rfl ?_; try simp only [Act.put, List.setIfInBounds_toArray, List.set_cons_zero, List.set_cons_succ]
  refine k_skip rfl rfl rfl rfl rfl ?_; try simp only [Act.put, List.setIfInBounds_toArray, List.set_cons_zero, List.set_cons_succ]
  refine k_pickF rfl _ _ _ rfl rfl rfl ?_; try simp only [Act.put, List.setIfInBounds_toArray, List.set_cons_zero, List.set_cons_succ]
  refine k_pickF rfl _ _ _ rfl rfl rfl ?_; try simp only [Act.put, List.setIfInBounds_toArray, List.set_cons_zero, List.set_cons_succ]
  refine k_end ?_
  rintro w5 rfl
  rw [HZ.out.1] at hS
  go_upto_region 4 with fail
  have hsl : ∀ w, (Instr.sliceAt 23 (.pointer (some ⟨b4, 0, none⟩)) (some (.int .i64 (K : Int))) none none).run Tryz.prog w = .ok (.slice (ap b4 K) L.length L.length) w := by
    have h1 := arr_fromL b4 K (by have h := HK.out; omega)
    rw [show 32 - K = L.length by have h := HK.out; omega] at h1
    exact h1
  refine k_region_head (C := fun w' => St [] w w' [(b4, 23, bc 32 fun _ => 0), (b2, 23, bc 32 fun _ => 0), (b1, 68, #[.bool false, .slice p L.length c, yl])]) 7 (by kernel_rfl) (by kernel_rfl) hS.drew ?_
  simp only [List.take_succ_cons, List.take_zero, List.drop_succ_cons, List.drop_zero]
  refine k_fld rfl _ _ _ rfl rfl (item_f1 _) ?_; try simp only [Act.put, List.setIfInBounds_toArray, List.set_cons_zero, List.set_cons_succ]
  refine k_cellC rfl _ _ rfl rfl (fun w' h => (h.get (.tail (.tail .head))).cell (j := 1) rfl) bytes_aggN ?_; try simp only [Act.put, List.setIfInBounds_toArray, List.set_cons_zero, List.set_cons_succ]
  refine k_lenSl rfl _ rfl rfl ?_; try simp only [Act.put, List.setIfInBounds_toArray, List.set_cons_zero, List.set_cons_succ]
  refine k_sub (s := ((K : Nat) : Int)) rfl _ _ _ _ rfl rfl rfl (by have h := HK.out; rw [IntKind.wrap_i64]; omega) ?_; try simp only [Act.put, List.setIfInBounds_toArray, List.set_cons_zero, List.set_cons_succ]
  refine k_slc rfl _ _ _ rfl rfl rfl hsl ?_; try simp only [Act.put, List.setIfInBounds_toArray, List.set_cons_zero, List.set_cons_succ]
  refine k_fld rfl _ _ _ rfl rfl (item_f1 _) ?_; try simp only [Act.put, List.setIfInBounds_toArray, List.set_cons_zero, List.set_cons_succ]
  refine k_cellC rfl _ _ rfl rfl (fun w' h => (h.get (.tail (.tail .head))).cell (j := 1) rfl) bytes_aggN ?_; try simp only [Act.put, List.setIfInBounds_toArray, List.set_cons_zero, List.set_cons_succ]
  refine k_end ?_
  clear hS hsl
  intro w7 hS
  go_wp2_with (first
    | (refine copy_bytes (l := L) (at_ := K) (f := fun _ => 0) (t := 23) (n0 := 32) (b := b4) (hS.get .head) rfl (.tmp 31) (.tmp 33) rfl rfl (fun hne => ap_lt b4 (by have h := HK.out; have h2 : 0 < L.length := List.length_pos_iff.2 hne; omega)) rfl (HV.out.tch hS.frame).rdB (by have h := HK.out; omega) ?_; intro w8 hB8 hO8; replace hS := hS.upd .head hO8 hB8; rw [HP.out] at hS; clear hB8 hO8)
    | (refine st_load (b := b4) hS rfl 23 _ rfl rfl .head wordN_type rfl wordN_size (bc_size _ _) ?_)
    | (refine st_store (b := b2) (c' := wv (padW L)) hS rfl 23 _ _ rfl rfl rfl (by repeat (first | exact Upd.head | apply Upd.tail)) wordN_size (bc_size _ _) (bc_size _ _) (bc_one _ _) ?_; clear hS; intro w6 hS))
  refine post_cell_one 2 3 23 rfl rfl rfl rfl (hS.get (.tail .head)) wordN_type rfl wordN_size (bc_size _ _) ?_
  exact ⟨by rw [HE.out]; rfl, hS.frame⟩
theorem rword_any (yb yl : Value) (L : List Nat) (w : World) (hv : RdA [] w yb L) : Calls Tryz.prog 36 #[.agg #[.bool false, yb, yl]] w (WordPost (.str L) w) := by
  by_cases h : L.length ≤ 32
  · cases L with
    | nil => exact rword_none yb yl [] w hv rfl
    | cons y r =>
      by_cases hy : y = 0
      · subst hy; exact rword_zero yb yl r w hv h
      · exact rword_some yb yl (y :: r) w hv (by simp) h (by simp [hy])
  · exact rword_long yb yl L w hv (by omega)
end Go.Proofs.YtdjhjgockgmbkaaGreatDoor

/- rlp.Int, the document's IntOf, over what word.Int and the document's Int answer. -/
namespace Go.Proofs.YtdjhjgockgmbkaaGreatDoor
open Go.RowKit

/-- The number of bytes, the greatest first. -/
def bval (W : List Nat) : Nat := W.foldl (fun a x => a * 256 + x) 0
def wInt (W : List Nat) : Option Nat := if bval W < 2 ^ 63 then some (bval W) else none
theorem wInt_zeros : wInt zeros32 = some 0 := by decide
def IntP (r : Option Nat) (w : World) (e : Ending) (w' : World) : Prop :=
  e = .returned (.tuple #[.int .i64 ((r.getD 0 : Nat) : Int), .bool r.isSome]) ∧ Tch [] w w'
def intOfN (it : It) : Option Nat := (wordOf it).bind wInt
theorem wordOf_ok {it : It} {W : List Nat} (hb : ∀ L, it = .str L → ∀ x ∈ L, x < 256) (h : wordOf it = some W) : W.length = 32 ∧ ∀ x ∈ W, x < 256 := by
  cases it with
  | lst its => cases h
  | str L =>
    have h' : (if L.length ≤ 32 ∧ L.head? ≠ some 0 then some (padW L) else none) = some W := h
    split at h'
    · rename_i hc
      cases h'
      exact ⟨padW_len hc.1, padW_lt (hb L rfl)⟩
    · cases h'
theorem zeros_ok : zeros32.length = 32 ∧ ∀ x ∈ zeros32, x < 256 := ⟨by decide, by decide⟩
set_option maxHeartbeats 2000000 in
set_option maxRecDepth 100000 in
theorem pint_any (q : Bool) (yb yl : Value) (it : It) (w : World) (hb : ∀ L, it = .str L → ∀ x ∈ L, x < 256)
    (HW : ∀ w', Tch [] w w' → Calls Tryz.prog 94 #[.agg #[.bool q, yb, yl]] w' (WordPost it w'))
    (HI : ∀ W w', W.length = 32 → (∀ x ∈ W, x < 256) → Calls Tryz.prog 119 #[.agg (wv W)] w' (IntP (wInt W) w')) :
    Calls Tryz.prog 93 #[.agg #[.bool q, yb, yl]] w (IntP (intOfN it) w) := by
  have hS := St.start w
  obtain ⟨f0, f1, f2, hfs, _⟩ := item_ty
  have HT := Lib.hid hfs
  clear hfs
  obtain ⟨z, hz, hz0⟩ : ∃ z, z = (bc 32 fun _ => 0) ∧ (Tryz.prog.info? 23).bind (·.zero) = some (.agg z) := ⟨_, rfl, word_zero⟩
  have HZ := Lib.hid (And.intro (show z.size = 32 by rw [hz]; exact bc_size _ _) hz0)
  clear hz hz0
  cases hwo : wordOf it with
  | none =>
    have HE := Lib.hid (show intOfN it = none by unfold intOfN; rw [hwo]; rfl)
    have HC := Lib.hid (fun (w' : World) (h : Tch [] w w') => show Calls Tryz.prog 94 #[.agg #[.bool q, yb, yl]] w' (fun e w'' => e = .returned (.tuple #[.agg (wv zeros32), .bool false]) ∧ Tch [] w' w'') from (HW w' h).mono fun e w'' h2 => by unfold WordPost at h2; rw [hwo] at h2; exact h2)
    clear HW HI hwo hb
    go_enter Tryz.func93, Tryz.ntmps93
    go_wp2_with (first
      | (refine st_box (L := []) hS rfl 68 _ rfl rfl ?_; clear hS; intro w1 b1 hS)
      | (refine st_load (b := b1) hS rfl 68 _ rfl rfl .head HT.out rfl itemN_size rfl ?_)
      | (go_at_call 94; go_must (refine (HC.out _ hS.frame).mono ?_; rintro e w2 ⟨rfl, hT2⟩; replace hS := hS.call hT2; clear hT2))
      | (refine st_new hS rfl 23 rfl HZ.out.2 ?_; clear hS; intro w3 b3 hS)
      | (refine st_store (b := b3) (c' := wv zeros32) hS rfl 23 _ _ rfl rfl rfl .head wordN_size HZ.out.1 (bc_size _ _) (bc_one _ _) ?_; clear hS; intro w6 hS))
    go_ret2
    exact ⟨by rw [HE.out]; rfl, hS.frame⟩
  | some W =>
    obtain ⟨hn, hl⟩ := wordOf_ok hb hwo
    have HE := Lib.hid (show intOfN it = wInt W by unfold intOfN; rw [hwo]; rfl)
    have HC := Lib.hid (fun (w' : World) (h : Tch [] w w') => show Calls Tryz.prog 94 #[.agg #[.bool q, yb, yl]] w' (fun e w'' => e = .returned (.tuple #[.agg (wv W), .bool true]) ∧ Tch [] w' w'') from (HW w' h).mono fun e w'' h2 => by unfold WordPost at h2; rw [hwo] at h2; exact h2)
    have HD := Lib.hid (fun (w' : World) => HI W w' hn hl)
    clear HW HI hwo hb hn hl
    go_enter Tryz.func93, Tryz.ntmps93
    go_wp2_with (first
      | (refine st_box (L := []) hS rfl 68 _ rfl rfl ?_; clear hS; intro w1 b1 hS)
      | (refine st_load (b := b1) hS rfl 68 _ rfl rfl .head HT.out rfl itemN_size rfl ?_)
      | (go_at_call 94; go_must (refine (HC.out _ hS.frame).mono ?_; rintro e w2 ⟨rfl, hT2⟩; replace hS := hS.call hT2; clear hT2))
      | (refine st_new hS rfl 23 rfl HZ.out.2 ?_; clear hS; intro w3 b3 hS)
      | (refine st_store (b := b3) (c' := wv W) hS rfl 23 _ _ rfl rfl rfl .head wordN_size HZ.out.1 (bc_size _ _) (bc_one _ _) ?_; clear hS; intro w6 hS)
      | (refine st_load (b := b3) hS rfl 23 _ rfl rfl .head wordN_type rfl wordN_size (bc_size _ _) ?_)
      | (go_at_call 119; go_must (refine (HD.out _).mono ?_; rintro e w7 ⟨rfl, hT7⟩; replace hS := hS.call hT7; clear hT7)))
    go_ret2
    exact ⟨by rw [HE.out]; rfl, hS.frame⟩
set_option maxHeartbeats 2000000 in
set_option maxRecDepth 100000 in
theorem rint_any (q : Bool) (yb yl : Value) (it : It) (w : World) (hb : ∀ L, it = .str L → ∀ x ∈ L, x < 256)
    (HW : ∀ w', Tch [] w w' → Calls Tryz.prog 36 #[.agg #[.bool q, yb, yl]] w' (WordPost it w'))
    (HI : ∀ W w', W.length = 32 → (∀ x ∈ W, x < 256) → Calls Tryz.prog 67 #[.agg (wv W)] w' (IntP (wInt W) w')) :
    Calls Tryz.prog 35 #[.agg #[.bool q, yb, yl]] w (IntP (intOfN it) w) := by
  have hS := St.start w
  obtain ⟨f0, f1, f2, hfs, _⟩ := item_ty
  have HT := Lib.hid hfs
  clear hfs
  obtain ⟨z, hz, hz0⟩ : ∃ z, z = (bc 32 fun _ => 0) ∧ (Tryz.prog.info? 23).bind (·.zero) = some (.agg z) := ⟨_, rfl, word_zero⟩
  have HZ := Lib.hid (And.intro (show z.size = 32 by rw [hz]; exact bc_size _ _) hz0)
  clear hz hz0
  cases hwo : wordOf it with
  | none =>
    have HE := Lib.hid (show intOfN it = none by unfold intOfN; rw [hwo]; rfl)
    have HC := Lib.hid (fun (w' : World) (h : Tch [] w w') => show Calls Tryz.prog 36 #[.agg #[.bool q, yb, yl]] w' (fun e w'' => e = .returned (.tuple #[.agg (wv zeros32), .bool false]) ∧ Tch [] w' w'') from (HW w' h).mono fun e w'' h2 => by unfold WordPost at h2; rw [hwo] at h2; exact h2)
    have HD := Lib.hid (fun (w' : World) => show Calls Tryz.prog 67 #[.agg (wv zeros32)] w' (fun e w'' => e = .returned (.tuple #[.int .i64 0, .bool true]) ∧ Tch [] w' w'') from (HI zeros32 w' zeros_ok.1 zeros_ok.2).mono fun e w'' h2 => by unfold IntP at h2; rw [wInt_zeros] at h2; exact h2)
    clear HW HI hwo hb
    go_enter Tryz.func35, Tryz.ntmps35
    go_wp2_with (first
      | (refine st_box (L := []) hS rfl 68 _ rfl rfl ?_; clear hS; intro w1 b1 hS)
      | (refine st_load (b := b1) hS rfl 68 _ rfl rfl .head HT.out rfl itemN_size rfl ?_)
      | (go_at_call 36; go_must (refine (HC.out _ hS.frame).mono ?_; rintro e w2 ⟨rfl, hT2⟩; replace hS := hS.call hT2; clear hT2))
      | (refine st_new hS rfl 23 rfl HZ.out.2 ?_; clear hS; intro w3 b3 hS)
      | (refine st_store (b := b3) (c' := wv zeros32) hS rfl 23 _ _ rfl rfl rfl .head wordN_size HZ.out.1 (bc_size _ _) (bc_one _ _) ?_; clear hS; intro w6 hS)
      | (refine st_load (b := b3) hS rfl 23 _ rfl rfl .head wordN_type rfl wordN_size (bc_size _ _) ?_)
      | (go_at_call 67; go_must (refine (HD.out _).mono ?_; rintro e w7 ⟨rfl, hT7⟩; replace hS := hS.call hT7; clear hT7)))
    go_ret2
    exact ⟨by rw [HE.out]; rfl, hS.frame⟩
  | some W =>
    obtain ⟨hn, hl⟩ := wordOf_ok hb hwo
    have HE := Lib.hid (show intOfN it = wInt W by unfold intOfN; rw [hwo]; rfl)
    have HC := Lib.hid (fun (w' : World) (h : Tch [] w w') => show Calls Tryz.prog 36 #[.agg #[.bool q, yb, yl]] w' (fun e w'' => e = .returned (.tuple #[.agg (wv W), .bool true]) ∧ Tch [] w' w'') from (HW w' h).mono fun e w'' h2 => by unfold WordPost at h2; rw [hwo] at h2; exact h2)
    have HD := Lib.hid (fun (w' : World) => HI W w' hn hl)
    clear HW HI hwo hb hn hl
    go_enter Tryz.func35, Tryz.ntmps35
    go_wp2_with (first
      | (refine st_box (L := []) hS rfl 68 _ rfl rfl ?_; clear hS; intro w1 b1 hS)
      | (refine st_load (b := b1) hS rfl 68 _ rfl rfl .head HT.out rfl itemN_size rfl ?_)
      | (go_at_call 36; go_must (refine (HC.out _ hS.frame).mono ?_; rintro e w2 ⟨rfl, hT2⟩; replace hS := hS.call hT2; clear hT2))
      | (refine st_new hS rfl 23 rfl HZ.out.2 ?_; clear hS; intro w3 b3 hS)
      | (refine st_store (b := b3) (c' := wv W) hS rfl 23 _ _ rfl rfl rfl .head wordN_size HZ.out.1 (bc_size _ _) (bc_one _ _) ?_; clear hS; intro w6 hS)
      | (refine st_load (b := b3) hS rfl 23 _ rfl rfl .head wordN_type rfl wordN_size (bc_size _ _) ?_)
      | (go_at_call 67; go_must (refine (HD.out _).mono ?_; rintro e w7 ⟨rfl, hT7⟩; replace hS := hS.call hT7; clear hT7)))
    go_ret2
    exact ⟨by rw [HE.out]; rfl, hS.frame⟩
end Go.Proofs.YtdjhjgockgmbkaaGreatDoor

/- rlp.Num over what word.Of answers. -/
namespace Go.Proofs.YtdjhjgockgmbkaaGreatDoor
open Go.RowKit

theorem notinN {w0 w : World} {b1 b2 : Nat} {t1 t2 : TypeId} {c1 c2 : Array Value} {X : List Nat} (hS : St [] w0 w [(b2, t2, c2), (b1, t1, c1)]) (hX : ∀ x ∈ X, x < w0.heap.size) : b1 ∉ b2 :: X := by
  intro h
  rcases List.mem_cons.1 h with h | h
  · exact apartN hS h.symm
  · have h1 := hX _ h
    rcases hS.own (.tail .head) with h' | h'
    · omega
    · simp at h'
set_option maxHeartbeats 2000000 in
set_option maxRecDepth 100000 in
theorem big_rlpF (X : List Nat) (W : List Nat) (w : World) (hX : ∀ x ∈ X, x < w.heap.size) (hn : W.length = 32) (hl : ∀ x ∈ W, x < 256) : Calls Tryz.prog 46 #[.agg (wv W)] w (BytesPost X (stripZ W) w) := by
  obtain ⟨f0, f1, f2, hty, _⟩ := item_ty
  have hS := St.start w
  have HN := Lib.hid (And.intro hn hl)
  have HX := Lib.hid hX
  clear hn hl hX
  go_enter Tryz.func46, Tryz.ntmps46
  go_wp2_with (first
    | (refine st_box (L := []) hS rfl 23 _ rfl rfl ?_; clear hS; intro w1 b1 hS)
    | (refine st_new (L := [(b1, 23, wv W)]) hS rfl 68 rfl itemN_zero ?_; clear hS; intro w2 b2 hS)
    | (go_at_call 77; go_must (refine (trimLeft_any (b2 :: X) (.slice (some ⟨b1, 0, none⟩) 32 32) W w2 (by have := HN.out.1; omega) (RdA.ofWord (hS.get (.tail .head)) HN.out.1 HN.out.2 (notinN hS HX.out))).mono ?_; rintro e w3 ⟨v3, rfl, rfl, hr⟩; obtain ⟨p3, n3, c3, rfl⟩ := slice_keep hr; have HR := Lib.hid hr; clear hr))
    | (refine arm_store (b := b2) (c := #[.bool false, .slice p3 n3 c3, .slice none 0 0]) (w' := w2.setRow b2 #[.bool false, .slice p3 n3 c3, .slice none 0 0]) rfl 68 _ _ rfl rfl rfl ((hS.get .head).store itemN_size (by rfl) (by rfl) (oneN3 rfl rfl rfl)) ?_))
  have hO := Only.setRow w2 b2 #[.bool false, .slice p3 n3 c3, .slice none 0 0]
  have hS4 := hS.upd .head hO ((hS.get .head).row _)
  refine post_cell 2 68 rfl rfl rfl (hS4.get .head) hty rfl itemN_size rfl ?_
  exact ⟨hS4.frame, _, _, _, rfl, ((HR.out.tch ((Tch.refl (b2 :: X) w2).only hO (.inr (by simp)))).mono (fun x hx => .inl (List.mem_cons_of_mem _ hx)))⟩
end Go.Proofs.YtdjhjgockgmbkaaGreatDoor

/- The document's Num over what its Of answers. -/
namespace Go.Proofs.YtdjhjgockgmbkaaGreatDoor
open Go.RowKit

set_option maxHeartbeats 2000000 in
set_option maxRecDepth 100000 in
theorem refBig_anyF (X : List Nat) (W : List Nat) (w : World) (hX : ∀ x ∈ X, x < w.heap.size) (hn : W.length = 32) (hl : ∀ x ∈ W, x < 256) : Calls Tryz.prog 30 #[.agg (wv W)] w (BytesPost X (stripZ W) w) := by
  obtain ⟨f0, f1, f2, hty, _⟩ := item_ty
  have hS := St.start w
  have HN := Lib.hid (And.intro hn hl)
  have HX := Lib.hid hX
  clear hn hl hX
  go_enter Tryz.func30, Tryz.ntmps30
  go_wp2_with (first
    | (refine st_box (L := []) hS rfl 23 _ rfl rfl ?_; clear hS; intro w1 b1 hS)
    | (refine st_new (L := [(b1, 23, wv W)]) hS rfl 68 rfl itemN_zero ?_; clear hS; intro w2 b2 hS))
  have HB := Lib.hid (show ∀ x ∈ b2 :: X, x < w2.heap.size by
    intro x hx
    rcases List.mem_cons.1 hx with rfl | hx
    · exact (hS.get .head).lt
    · exact Nat.lt_of_lt_of_le (HX.out x hx) hS.frame.size)
  have HS := Lib.hid hS
  clear hS
  go_loopw [3] (fun i wr => ∃ k : Nat, i = .int .i64 (k : Int) ∧ k ≤ 32 ∧ w2 = wr ∧ Hid (∀ i, i < k → W.getD i 0 = 0)) (fun i _ => 32 - (intOf i).toNat)
  case atStart => exact ⟨0, rfl, by omega, by first | trivial | rfl, Lib.hid (fun i hi => by omega)⟩
  case round =>
    obtain ⟨k, rfl, hk, rfl, HZ⟩ := hrel
    have fin : Hid (∀ (q : Nat), True → True) := Lib.hid (fun _ h => h)
    by_cases hlt : k < 32
    · have e1 : (k : Int) < 32 := by omega
      have e0 : (0 : Int) ≤ (k : Int) := by omega
      have hcl := (HS.out.get (.tail .head)).cell (bc_get (f := fun i => W.getD i 0) hlt)
      obtain ⟨x, hx⟩ : ∃ x, x = W.getD k 0 := ⟨_, rfl⟩
      rw [← hx] at hcl
      have HX := Lib.hid hx
      clear hx
      by_cases hx0 : x = 0
      · subst hx0
        go_wp2
        go_roundw
        case rel => exact ⟨k + 1, by go_num, hlt, by first | trivial | rfl, Lib.hid (fun i hi => by
          rcases Nat.lt_or_ge i k with h | h
          · exact HZ.out i h
          · rw [show i = k by omega, ← HX.out])⟩
        case measure => simp [intOf]; omega
      · have e2 : ((x : Int) == 0) = false := by rw [beq_eq_false_iff_ne]; omega
        have e3 : ¬ (x : Int) = 0 := by omega
        have HST := Lib.hid (strip_drop W k HZ.out (by have := HN.out.1; omega) (.inr (by rw [← HX.out]; exact hx0)))
        clear hx0
        go_upto_region 4 with (fail)
        obtain ⟨p', hp1, hp2⟩ := arr_from b1 k (by omega)
        have HP := Lib.hid hp1
        have hsrc := RdA.fromWord (X := []) (HS.out.get (.tail .head)) HN.out.1 HN.out.2 (by simp) (show k ≤ 32 by omega) hp2
        rw [← HST.out] at hsrc
        have HSRC := Lib.hid hsrc
        have hS := HS.out
        have HLS := Lib.hid (show (stripZ W).length ≤ 32 by rw [HST.out, List.length_drop]; have := HN.out.1; omega)
        clear hsrc hp1 hp2
        go_wp2_with (first
          | (refine st_fromN (v := .pointer (some ⟨b1, 0, none⟩)) (l := .int .i64 (k : Int)) (r := .slice p' (32 - k) (32 - k)) rfl 23 _ _ (by rfl) (by rfl) (by rfl) HP.out ?_)
          | (at_builtin; go_must (refine st_appB (w0 := w2) (v := .slice none 0 0) (l := []) (m := stripZ W) (ty := 5) rfl _ _ rfl rfl rfl (own_nil _ _) (Tch.refl _ _) HSRC.out.rdB (by have := HLS.out; simp; omega) ?_; intro v5 w5 hown5 hT5; have HR5 := Lib.hid ((RdF.own hown5 (fun x hx => HSRC.out.lt x hx)) (b2 :: X) HB.out); replace hS := hS.call hT5; clear hown5))
          | (go_at_call 31; go_must (refine (refBytes_any (b2 :: X) _ _ _ HR5.out).mono ?_; rintro e w6 ⟨hT6, p6, n6, c6, rfl, hr6⟩; replace hS := hS.call hT6; have HR6 := Lib.hid hr6; clear hr6))
          | (refine arm_store (b := b2) (c := #[.bool false, .slice p6 n6 c6, .slice none 0 0]) (w' := w6.setRow b2 #[.bool false, .slice p6 n6 c6, .slice none 0 0]) rfl 68 _ _ rfl rfl rfl ((hS.get .head).store itemN_size (by rfl) (by rfl) (oneN3 rfl rfl rfl)) ?_))
        have hO := Only.setRow w6 b2 #[.bool false, .slice p6 n6 c6, .slice none 0 0]
        have hS4 := hS.upd .head hO ((hS.get .head).row _)
        refine post_cell 2 68 rfl rfl rfl (hS4.get .head) hty rfl itemN_size rfl ?_
        exact ⟨hS4.frame, _, _, _, rfl, ((HR6.out.tch ((Tch.refl (b2 :: X) w6).only hO (.inr (by simp)))).mono (fun x hx => .inl (List.mem_cons_of_mem _ hx)))⟩
    · obtain rfl : k = 32 := by omega
      have HST := Lib.hid (strip_drop W 32 HZ.out (by have := HN.out.1; omega) (.inl HN.out.1.symm))
      go_upto_region 4 with (fail)
      obtain ⟨p', hp1, hp2⟩ := arr_from b1 32 (by omega)
      have HP := Lib.hid hp1
      have hsrc := RdA.fromWord (X := []) (HS.out.get (.tail .head)) HN.out.1 HN.out.2 (by simp) (show 32 ≤ 32 by omega) hp2
      rw [← HST.out] at hsrc
      have HSRC := Lib.hid hsrc
      have hS := HS.out
      have HLS := Lib.hid (show (stripZ W).length ≤ 32 by rw [HST.out, List.length_drop]; have := HN.out.1; omega)
      clear hsrc hp1 hp2
      go_wp2_with (first
        | (refine st_fromN (v := .pointer (some ⟨b1, 0, none⟩)) (l := .int .i64 32) (r := .slice p' (32 - 32) (32 - 32)) rfl 23 _ _ (by rfl) (by rfl) (by rfl) HP.out ?_)
        | (at_builtin; go_must (refine st_appB (w0 := w2) (v := .slice none 0 0) (l := []) (m := stripZ W) (ty := 5) rfl _ _ rfl rfl rfl (own_nil _ _) (Tch.refl _ _) HSRC.out.rdB (by have := HLS.out; simp; omega) ?_; intro v5 w5 hown5 hT5; have HR5 := Lib.hid ((RdF.own hown5 (fun x hx => HSRC.out.lt x hx)) (b2 :: X) HB.out); replace hS := hS.call hT5; clear hown5))
        | (go_at_call 31; go_must (refine (refBytes_any (b2 :: X) _ _ _ HR5.out).mono ?_; rintro e w6 ⟨hT6, p6, n6, c6, rfl, hr6⟩; replace hS := hS.call hT6; have HR6 := Lib.hid hr6; clear hr6))
        | (refine arm_store (b := b2) (c := #[.bool false, .slice p6 n6 c6, .slice none 0 0]) (w' := w6.setRow b2 #[.bool false, .slice p6 n6 c6, .slice none 0 0]) rfl 68 _ _ rfl rfl rfl ((hS.get .head).store itemN_size (by rfl) (by rfl) (oneN3 rfl rfl rfl)) ?_))
      have hO := Only.setRow w6 b2 #[.bool false, .slice p6 n6 c6, .slice none 0 0]
      have hS4 := hS.upd .head hO ((hS.get .head).row _)
      refine post_cell 2 68 rfl rfl rfl (hS4.get .head) hty rfl itemN_size rfl ?_
      exact ⟨hS4.frame, _, _, _, rfl, ((HR6.out.tch ((Tch.refl (b2 :: X) w6).only hO (.inr (by simp)))).mono (fun x hx => .inl (List.mem_cons_of_mem _ hx)))⟩
set_option maxHeartbeats 2000000 in
set_option maxRecDepth 100000 in
/-- What the document's Of answers, given; the number made at least nought. -/
theorem rnum_any (n : Int) (W : List Nat) (w : World) (hn : W.length = 32) (hl : ∀ x ∈ W, x < 256)
    (HO : ∀ (k : Int) w', k = (n.toNat : Int) → Calls Tryz.prog 21 #[.int .i64 k] w' (fun e w'' => e = .returned (.agg (wv W)) ∧ Tch [] w' w'')) :
    Calls Tryz.prog 29 #[.int .i64 n] w (BytesPost [] (stripZ W) w) := by
  obtain ⟨f0, f1, f2, hty, _⟩ := item_ty
  have hS := St.start w
  have HN := Lib.hid (And.intro hn hl)
  have HC := Lib.hid HO
  clear hn hl HO
  go_enter Tryz.func29, Tryz.ntmps29
  go_wp2_with (first
    | (refine st_new (L := []) hS rfl 68 rfl itemN_zero ?_; clear hS; intro w2 b2 hS)
    | (go_at_call 21; go_must (refine (HC.out _ _ (by omega)).mono ?_; rintro e w3 ⟨rfl, hT3⟩; replace hS := hS.call hT3; clear hT3))
    | (go_at_call 30; go_must (refine (refBig_anyF [b2] W _ (by intro x hx; rw [List.mem_singleton.1 hx]; exact (hS.get .head).lt) HN.out.1 HN.out.2).mono ?_; rintro e w4 ⟨hT4, p3, n3, c3, rfl, hr⟩; replace hS := hS.call hT4; clear hT4; have HR := Lib.hid hr; clear hr))
    | (refine arm_store (b := b2) (c := #[.bool false, .slice p3 n3 c3, .slice none 0 0]) (w' := w4.setRow b2 #[.bool false, .slice p3 n3 c3, .slice none 0 0]) rfl 68 _ _ rfl rfl rfl ((hS.get .head).store itemN_size (by rfl) (by rfl) (oneN3 rfl rfl rfl)) ?_))
  all_goals
    have hO := Only.setRow w4 b2 #[.bool false, .slice p3 n3 c3, .slice none 0 0]
    have hS4 := hS.upd .head hO ((hS.get .head).row _)
    refine post_cell 2 68 rfl rfl rfl (hS4.get .head) hty rfl itemN_size rfl ?_
    exact ⟨hS4.frame, _, _, _, rfl, ((HR.out.tch ((Tch.refl [b2] w4).only hO (.inr (by simp)))).mono (by simp))⟩
end Go.Proofs.YtdjhjgockgmbkaaGreatDoor
