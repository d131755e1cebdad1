/- rlp.Word, the document's WordOf. -/
import Derived.Test.YtjlhnjnoigjjfaaDoorNK
namespace Go.Proofs.YtjlhnjnoigjjfaaDoor
open Go.RowKit

/-- A word out of bytes, zeros in front. -/
def padL (L : List Nat) : List Nat := List.replicate (32 - L.length) 0 ++ L
theorem padL_len {L : List Nat} (h : L.length ≤ 32) : (padL L).length = 32 := by unfold padL; simp; omega
theorem padL_lt {L : List Nat} (h : ∀ x ∈ L, x < 256) : ∀ x ∈ padL L, x < 256 := by
  intro x hx
  rcases List.mem_append.1 hx with hx | hx
  · rw [List.eq_of_mem_replicate hx]; decide
  · exact h x hx
def zeros32 : List Nat := List.replicate 32 0
theorem wv_zero : (bc 32 fun _ => 0) = wv zeros32 := bc_congr fun i hi => by
  show 0 = zeros32.getD i 0
  unfold zeros32
  rw [List.getD_eq_getElem?_getD, List.getElem?_replicate]
  split <;> rfl
theorem wv_pad {L : List Nat} (h : L.length ≤ 32) : bc 32 (wr (fun _ => 0) (32 - L.length) L) = wv (padL L) := by
  refine bc_congr fun i hi => ?_
  unfold wr padL
  by_cases h1 : 32 - L.length ≤ i
  · rw [if_pos ⟨h1, by omega⟩, List.getD_eq_getElem?_getD, List.getD_eq_getElem?_getD, List.getElem?_append_right (by simpa using h1)]; simp
  · rw [if_neg (by omega), List.getD_eq_getElem?_getD, List.getElem?_append_left (by simp; omega)]
    simp [show i < 32 - L.length by omega]
/-- The word that an item is the bytes of, or none. -/
def wordOf : It → Option (List Nat)
  | .str L => if L.length ≤ 32 ∧ L.head? ≠ some 0 then some (padL L) else none
  | .lst _ => none
def WordPost (it : It) (w : World) (e : Ending) (w' : World) : Prop :=
  e = .returned (.tuple #[.agg (wv ((wordOf it).getD zeros32)), .bool (wordOf it).isSome]) ∧ Tch [] w w'
theorem word_lit : (bc 32 fun _ => 0) = #[.int .u8 0, .int .u8 0, .int .u8 0, .int .u8 0, .int .u8 0, .int .u8 0, .int .u8 0, .int .u8 0, .int .u8 0, .int .u8 0, .int .u8 0, .int .u8 0, .int .u8 0, .int .u8 0, .int .u8 0, .int .u8 0, .int .u8 0, .int .u8 0, .int .u8 0, .int .u8 0, .int .u8 0, .int .u8 0, .int .u8 0, .int .u8 0, .int .u8 0, .int .u8 0, .int .u8 0, .int .u8 0, .int .u8 0, .int .u8 0, .int .u8 0, .int .u8 0] := by kernel_rfl
theorem word_lit_eq : (Value.agg #[.int .u8 0, .int .u8 0, .int .u8 0, .int .u8 0, .int .u8 0, .int .u8 0, .int .u8 0, .int .u8 0, .int .u8 0, .int .u8 0, .int .u8 0, .int .u8 0, .int .u8 0, .int .u8 0, .int .u8 0, .int .u8 0, .int .u8 0, .int .u8 0, .int .u8 0, .int .u8 0, .int .u8 0, .int .u8 0, .int .u8 0, .int .u8 0, .int .u8 0, .int .u8 0, .int .u8 0, .int .u8 0, .int .u8 0, .int .u8 0, .int .u8 0, .int .u8 0]) = .agg (bc 32 fun _ => 0) := by rw [word_lit]
theorem word_zero : (Tryd.prog.info? 23).bind (·.zero) = some (.agg (bc 32 fun _ => 0)) := by rw [word_lit]; kernel_rfl
theorem wordN_one (W : List Nat) : (wv W).all (·.oneCell') = true := bc_one _ _
/-- The place of a word's cells from the k-th on. -/
noncomputable def ap (b k : Nat) : Option Addr := if k < 32 then some ⟨b, k, none⟩ else (arr_from b 32 (Nat.le_refl _)).choose
theorem ap_lt (b : Nat) {k : Nat} (h : k < 32) : ap b k = some ⟨b, k, none⟩ := if_pos h
theorem arr_fromL (b k : Nat) (hk : k ≤ 32) : ∀ w, (Instr.sliceAt 23 (.pointer (some ⟨b, 0, none⟩)) (some (.int .i64 (k : Int))) none none).run Tryd.prog w = .ok (.slice (ap b k) (32 - k) (32 - k)) w := by
  by_cases h : k < 32
  · obtain ⟨p', h1, h2⟩ := arr_from b k hk
    rw [ap_lt b h, ← h2 h]; exact h1
  · obtain rfl : k = 32 := by omega
    have h1 := (arr_from b 32 (Nat.le_refl _)).choose_spec.1
    unfold ap
    rw [if_neg (by omega)]; exact h1
theorem k_slc {o : Oper} {a : Act} {ops : Array Oper} {rest : List Oper} {C : World → Prop} {Q : Act → Prop} {v n u : Value} (hw : Region.wanted o (yielded ops a.tmps) = true) (x y : Operand) (t : TypeId) (ho : o.op = .slice t x (some y) none none) (hx : a.eval x = v) (hy : a.eval y = n)
    (hr : ∀ w, (Instr.sliceAt t v (some n) none none).run Tryd.prog w = .ok u w) (h : KQ ops C Q rest (a.put o.dst u)) : KQ ops C Q (o :: rest) a :=
  k_pure hw (fun w => by unfold execOp; simp only [ho, hx, hy, Option.map_some, Option.map_none]; show Sem.run _ _ w = _; simp only [Sem.run_bind, hr w, Result.andThen_ok]; rfl) h
set_option maxHeartbeats 2000000 in
set_option maxRecDepth 100000 in
theorem pword_lst (yb yl : Value) (its : List It) (w : World) : Calls Tryd.prog 8 #[.agg #[.bool true, yb, yl]] w (WordPost (.lst its) w) := by
  have hS := St.start w
  obtain ⟨z, hz, hz0⟩ : ∃ z, z = (bc 32 fun _ => 0) ∧ (Tryd.prog.info? 23).bind (·.zero) = some (.agg z) := ⟨_, rfl, word_zero⟩
  have HZ := Lib.hid (And.intro hz hz0)
  clear hz hz0
  go_enter Tryd.func8, Tryd.ntmps8
  go_upto_region 2 with (first
    | (refine st_box (L := []) hS rfl 27 _ rfl rfl ?_; clear hS; intro w1 b1 hS)
    | (refine st_new (L := [(b1, 27, #[.bool true, yb, yl])]) hS rfl 23 rfl HZ.out.2 ?_; clear hS; intro w2 b2 hS)
    | (refine st_new (L := [(b2, 23, z), (b1, 27, #[.bool true, yb, yl])]) hS rfl 23 rfl HZ.out.2 ?_; clear hS; intro w4 b4 hS))
  have d0 : w4.cell? ⟨b1, 0, none⟩ = some (.bool true) := (hS.get (.tail (.tail .head))).cell (j := 0) rfl
  refine k_seq (C := fun w' => w' = w4) rfl ?_
  refine k_fld rfl _ _ _ rfl rfl (item_f0 _) ?_; try simp only [Act.put, List.setIfInBounds_toArray, List.set_cons_zero, List.set_cons_succ]
  refine k_cellC rfl _ _ rfl rfl (by rintro w' rfl; exact d0) bool_aggN ?_; try simp only [Act.put, List.setIfInBounds_toArray, List.set_cons_zero, List.set_cons_succ]
  refine k_boolm rfl _ rfl rfl ?_; try simp only [Act.put, List.setIfInBounds_toArray, List.set_cons_zero, List.set_cons_succ]
  refine k_skip rfl rfl rfl rfl rfl ?_; try simp only [Act.put, List.setIfInBounds_toArray, List.set_cons_zero, List.set_cons_succ]
  refine k_skip rfl rfl rfl rfl rfl ?_; try simp only [Act.put, List.setIfInBounds_toArray, List.set_cons_zero, List.set_cons_succ]
  refine k_skip rfl rfl rfl rfl rfl ?_; try simp only [Act.put, List.setIfInBounds_toArray, List.set_cons_zero, List.set_cons_succ]
  refine k_skip rfl rfl rfl rfl rfl ?_; try simp only [Act.put, List.setIfInBounds_toArray, List.set_cons_zero, List.set_cons_succ]
  refine k_pickT rfl _ _ _ rfl rfl rfl ?_; try simp only [Act.put, List.setIfInBounds_toArray, List.set_cons_zero, List.set_cons_succ]
  refine k_boolm rfl _ rfl rfl ?_; try simp only [Act.put, List.setIfInBounds_toArray, List.set_cons_zero, List.set_cons_succ]
  refine k_skip rfl rfl rfl rfl rfl ?_; try simp only [Act.put, List.setIfInBounds_toArray, List.set_cons_zero, List.set_cons_succ]
  refine k_skip rfl rfl rfl rfl rfl ?_; try simp only [Act.put, List.setIfInBounds_toArray, List.set_cons_zero, List.set_cons_succ]
  refine k_skip rfl rfl rfl rfl rfl ?_; try simp only [Act.put, List.setIfInBounds_toArray, List.set_cons_zero, List.set_cons_succ]
  refine k_skip rfl rfl rfl rfl rfl ?_; try simp only [Act.put, List.setIfInBounds_toArray, List.set_cons_zero, List.set_cons_succ]
  refine k_skip rfl rfl rfl rfl rfl ?_; try simp only [Act.put, List.setIfInBounds_toArray, List.set_cons_zero, List.set_cons_succ]
  refine k_skipU rfl ?_; try simp only [Act.put, List.setIfInBounds_toArray, List.set_cons_zero, List.set_cons_succ]
  refine k_skipU rfl ?_; try simp only [Act.put, List.setIfInBounds_toArray, List.set_cons_zero, List.set_cons_succ]
  refine k_skipU rfl ?_; try simp only [Act.put, List.setIfInBounds_toArray, List.set_cons_zero, List.set_cons_succ]
  refine k_skipU rfl ?_; try simp only [Act.put, List.setIfInBounds_toArray, List.set_cons_zero, List.set_cons_succ]
  refine k_skipU rfl ?_; try simp only [Act.put, List.setIfInBounds_toArray, List.set_cons_zero, List.set_cons_succ]
  refine k_skip rfl rfl rfl rfl rfl ?_; try simp only [Act.put, List.setIfInBounds_toArray, List.set_cons_zero, List.set_cons_succ]
  refine k_pickT rfl _ _ _ rfl rfl rfl ?_; try simp only [Act.put, List.setIfInBounds_toArray, List.set_cons_zero, List.set_cons_succ]
  refine k_end ?_
  rintro w5 rfl
  rw [HZ.out.1] at hS
  go_wp2_with (first
    | (refine st_store (b := b2) (c' := bc 32 fun _ => 0) hS rfl 23 _ _ rfl rfl word_lit_eq (by repeat (first | exact Upd.head | apply Upd.tail)) wordN_size (bc_size _ _) (bc_size _ _) (bc_one _ _) ?_; clear hS; intro w6 hS))
  refine post_cell_one 2 3 23 rfl rfl rfl rfl (hS.get (.tail .head)) wordN_type rfl wordN_size (bc_size _ _) ?_
  exact ⟨by rw [wv_zero]; rfl, hS.frame⟩
set_option maxHeartbeats 2000000 in
set_option maxRecDepth 100000 in
theorem pword_long (yb yl : Value) (L : List Nat) (w : World) (hv : RdA [] w yb L) (h : 32 < L.length) : Calls Tryd.prog 8 #[.agg #[.bool false, yb, yl]] w (WordPost (.str L) w) := by
  have hS := St.start w
  obtain ⟨p, n, c, rfl⟩ := slice_keep hv
  have hlen := hv.len
  have HN := Lib.hid (show 32 < n by omega)
  have HE := Lib.hid (show wordOf (.str L) = none by show (if _ then _ else _) = _; rw [if_neg (fun h' => by omega)])
  clear hv hlen h
  obtain ⟨z, hz, hz0⟩ : ∃ z, z = (bc 32 fun _ => 0) ∧ (Tryd.prog.info? 23).bind (·.zero) = some (.agg z) := ⟨_, rfl, word_zero⟩
  have HZ := Lib.hid (And.intro hz hz0)
  clear hz hz0
  go_enter Tryd.func8, Tryd.ntmps8
  go_upto_region 2 with (first
    | (refine st_box (L := []) hS rfl 27 _ rfl rfl ?_; clear hS; intro w1 b1 hS)
    | (refine st_new (L := [(b1, 27, #[.bool false, .slice p n c, yl])]) hS rfl 23 rfl HZ.out.2 ?_; clear hS; intro w2 b2 hS)
    | (refine st_new (L := [(b2, 23, z), (b1, 27, #[.bool false, .slice p n c, yl])]) hS rfl 23 rfl HZ.out.2 ?_; clear hS; intro w4 b4 hS))
  have d0 : w4.cell? ⟨b1, 0, none⟩ = some (.bool false) := (hS.get (.tail (.tail .head))).cell (j := 0) rfl
  have d1 : w4.cell? ⟨b1, 1, none⟩ = some (.slice p n c) := (hS.get (.tail (.tail .head))).cell (j := 1) rfl
  refine k_seq (C := fun w' => w' = w4) rfl ?_
  refine k_fld rfl _ _ _ rfl rfl (item_f0 _) ?_; try simp only [Act.put, List.setIfInBounds_toArray, List.set_cons_zero, List.set_cons_succ]
  refine k_cellC rfl _ _ rfl rfl (by rintro w' rfl; exact d0) bool_aggN ?_; try simp only [Act.put, List.setIfInBounds_toArray, List.set_cons_zero, List.set_cons_succ]
  refine k_boolm rfl _ rfl rfl ?_; try simp only [Act.put, List.setIfInBounds_toArray, List.set_cons_zero, List.set_cons_succ]
  refine k_fld rfl _ _ _ rfl rfl (item_f1 _) ?_; try simp only [Act.put, List.setIfInBounds_toArray, List.set_cons_zero, List.set_cons_succ]
  refine k_cellC rfl _ _ rfl rfl (by rintro w' rfl; exact d1) bytes_aggN ?_; try simp only [Act.put, List.setIfInBounds_toArray, List.set_cons_zero, List.set_cons_succ]
  refine k_lenSl rfl _ rfl rfl ?_; try simp only [Act.put, List.setIfInBounds_toArray, List.set_cons_zero, List.set_cons_succ]
  refine k_gtr rfl _ _ _ rfl rfl rfl (decide_eq_true (by have h := HN.out; omega)) ?_; try simp only [Act.put, List.setIfInBounds_toArray, List.set_cons_zero, List.set_cons_succ]
  refine k_pickF rfl _ _ _ rfl rfl rfl ?_; try simp only [Act.put, List.setIfInBounds_toArray, List.set_cons_zero, List.set_cons_succ]
  refine k_boolm rfl _ rfl rfl ?_; try simp only [Act.put, List.setIfInBounds_toArray, List.set_cons_zero, List.set_cons_succ]
  refine k_skip rfl rfl rfl rfl rfl ?_; try simp only [Act.put, List.setIfInBounds_toArray, List.set_cons_zero, List.set_cons_succ]
  refine k_skip rfl rfl rfl rfl rfl ?_; try simp only [Act.put, List.setIfInBounds_toArray, List.set_cons_zero, List.set_cons_succ]
  refine k_skip rfl rfl rfl rfl rfl ?_; try simp only [Act.put, List.setIfInBounds_toArray, List.set_cons_zero, List.set_cons_succ]
  refine k_skip rfl rfl rfl rfl rfl ?_; try simp only [Act.put, List.setIfInBounds_toArray, List.set_cons_zero, List.set_cons_succ]
  refine k_skip rfl rfl rfl rfl rfl ?_; try simp only [Act.put, List.setIfInBounds_toArray, List.set_cons_zero, List.set_cons_succ]
  refine k_skipU rfl ?_; try simp only [Act.put, List.setIfInBounds_toArray, List.set_cons_zero, List.set_cons_succ]
  refine k_skipU rfl ?_; try simp only [Act.put, List.setIfInBounds_toArray, List.set_cons_zero, List.set_cons_succ]
  refine k_skipU rfl ?_; try simp only [Act.put, List.setIfInBounds_toArray, List.set_cons_zero, List.set_cons_succ]
  refine k_skipU rfl ?_; try simp only [Act.put, List.setIfInBounds_toArray, List.set_cons_zero, List.set_cons_succ]
  refine k_skipU rfl ?_; try simp only [Act.put, List.setIfInBounds_toArray, List.set_cons_zero, List.set_cons_succ]
  refine k_skip rfl rfl rfl rfl rfl ?_; try simp only [Act.put, List.setIfInBounds_toArray, List.set_cons_zero, List.set_cons_succ]
  refine k_pickT rfl _ _ _ rfl rfl rfl ?_; try simp only [Act.put, List.setIfInBounds_toArray, List.set_cons_zero, List.set_cons_succ]
  refine k_end ?_
  rintro w5 rfl
  rw [HZ.out.1] at hS
  go_wp2_with (first
    | (refine st_store (b := b2) (c' := bc 32 fun _ => 0) hS rfl 23 _ _ rfl rfl word_lit_eq (by repeat (first | exact Upd.head | apply Upd.tail)) wordN_size (bc_size _ _) (bc_size _ _) (bc_one _ _) ?_; clear hS; intro w6 hS))
  refine post_cell_one 2 3 23 rfl rfl rfl rfl (hS.get (.tail .head)) wordN_type rfl wordN_size (bc_size _ _) ?_
  exact ⟨by rw [HE.out, wv_zero]; rfl, hS.frame⟩
set_option maxHeartbeats 2000000 in
set_option maxRecDepth 100000 in
theorem pword_zero (yb yl : Value) (r : List Nat) (w : World) (hv : RdA [] w yb (0 :: r)) (h : (0 :: r).length ≤ 32) : Calls Tryd.prog 8 #[.agg #[.bool false, yb, yl]] w (WordPost (.str (0 :: r)) w) := by
  have hS := St.start w
  obtain ⟨p, n, c, rfl⟩ := slice_keep hv
  have hlen := hv.len
  obtain ⟨b, o, rfl, hbw, hc⟩ := at_ofN hv (by simp)
  have hc0 := hc 0 (by simp)
  rw [Nat.add_zero] at hc0
  simp only [List.getD_cons_zero] at hc0
  have HC := Lib.hid (fun (w' : World) (h : Tch [] w w') => (h.cell (p := ⟨b, o, none⟩) hbw (by simp)).trans hc0)
  have HN := Lib.hid (show 0 < n ∧ n ≤ 32 by simp only [List.length_cons] at hlen h; omega)
  have HE := Lib.hid (show wordOf (.str (0 :: r)) = none by show (if _ then _ else _) = _; rw [if_neg (fun h' => h'.2 rfl)])
  clear hv hlen h hc hc0
  obtain ⟨z, hz, hz0⟩ : ∃ z, z = (bc 32 fun _ => 0) ∧ (Tryd.prog.info? 23).bind (·.zero) = some (.agg z) := ⟨_, rfl, word_zero⟩
  have HZ := Lib.hid (And.intro hz hz0)
  clear hz hz0
  go_enter Tryd.func8, Tryd.ntmps8
  go_upto_region 2 with (first
    | (refine st_box (L := []) hS rfl 27 _ rfl rfl ?_; clear hS; intro w1 b1 hS)
    | (refine st_new (L := [(b1, 27, #[.bool false, .slice (some ⟨b, o, none⟩) n c, yl])]) hS rfl 23 rfl HZ.out.2 ?_; clear hS; intro w2 b2 hS)
    | (refine st_new (L := [(b2, 23, z), (b1, 27, #[.bool false, .slice (some ⟨b, o, none⟩) n c, yl])]) hS rfl 23 rfl HZ.out.2 ?_; clear hS; intro w4 b4 hS))
  have d0 : w4.cell? ⟨b1, 0, none⟩ = some (.bool false) := (hS.get (.tail (.tail .head))).cell (j := 0) rfl
  have d1 : w4.cell? ⟨b1, 1, none⟩ = some (.slice (some ⟨b, o, none⟩) n c) := (hS.get (.tail (.tail .head))).cell (j := 1) rfl
  have d2 := HC.out _ hS.frame
  refine k_seq (C := fun w' => w' = w4) rfl ?_
  refine k_fld rfl _ _ _ rfl rfl (item_f0 _) ?_; try simp only [Act.put, List.setIfInBounds_toArray, List.set_cons_zero, List.set_cons_succ]
  refine k_cellC rfl _ _ rfl rfl (by rintro w' rfl; exact d0) bool_aggN ?_; try simp only [Act.put, List.setIfInBounds_toArray, List.set_cons_zero, List.set_cons_succ]
  refine k_boolm rfl _ rfl rfl ?_; try simp only [Act.put, List.setIfInBounds_toArray, List.set_cons_zero, List.set_cons_succ]
  refine k_fld rfl _ _ _ rfl rfl (item_f1 _) ?_; try simp only [Act.put, List.setIfInBounds_toArray, List.set_cons_zero, List.set_cons_succ]
  refine k_cellC rfl _ _ rfl rfl (by rintro w' rfl; exact d1) bytes_aggN ?_; try simp only [Act.put, List.setIfInBounds_toArray, List.set_cons_zero, List.set_cons_succ]
  refine k_lenSl rfl _ rfl rfl ?_; try simp only [Act.put, List.setIfInBounds_toArray, List.set_cons_zero, List.set_cons_succ]
  refine k_gtr rfl _ _ _ rfl rfl rfl (decide_eq_false (by have h := HN.out; omega)) ?_; try simp only [Act.put, List.setIfInBounds_toArray, List.set_cons_zero, List.set_cons_succ]
  refine k_pickF rfl _ _ _ rfl rfl rfl ?_; try simp only [Act.put, List.setIfInBounds_toArray, List.set_cons_zero, List.set_cons_succ]
  refine k_boolm rfl _ rfl rfl ?_; try simp only [Act.put, List.setIfInBounds_toArray, List.set_cons_zero, List.set_cons_succ]
  refine k_fld rfl _ _ _ rfl rfl (item_f1 _) ?_; try simp only [Act.put, List.setIfInBounds_toArray, List.set_cons_zero, List.set_cons_succ]
  refine k_cellC rfl _ _ rfl rfl (by rintro w' rfl; exact d1) bytes_aggN ?_; try simp only [Act.put, List.setIfInBounds_toArray, List.set_cons_zero, List.set_cons_succ]
  refine k_lenSl rfl _ rfl rfl ?_; try simp only [Act.put, List.setIfInBounds_toArray, List.set_cons_zero, List.set_cons_succ]
  refine k_gtr rfl _ _ _ rfl rfl rfl (decide_eq_true (by have h := HN.out; omega)) ?_; try simp only [Act.put, List.setIfInBounds_toArray, List.set_cons_zero, List.set_cons_succ]
  refine k_boolm rfl _ rfl rfl ?_; try simp only [Act.put, List.setIfInBounds_toArray, List.set_cons_zero, List.set_cons_succ]
  refine k_fld rfl _ _ _ rfl rfl (item_f1 _) ?_; try simp only [Act.put, List.setIfInBounds_toArray, List.set_cons_zero, List.set_cons_succ]
  refine k_cellC rfl _ _ rfl rfl (by rintro w' rfl; exact d1) bytes_aggN ?_; try simp only [Act.put, List.setIfInBounds_toArray, List.set_cons_zero, List.set_cons_succ]
  refine k_idxSl (j := 0) rfl _ _ _ rfl rfl rfl bytes_ty u8_size (by have h := HN.out; omega) ?_; try simp only [Act.put, List.setIfInBounds_toArray, List.set_cons_zero, List.set_cons_succ]
  refine k_cellC rfl _ _ rfl rfl (by rintro w' rfl; exact d2) u8_aggN ?_; try simp only [Act.put, List.setIfInBounds_toArray, List.set_cons_zero, List.set_cons_succ]
  refine k_eq8 (t := true) rfl _ _ _ rfl rfl rfl (rfl) ?_; try simp only [Act.put, List.setIfInBounds_toArray, List.set_cons_zero, List.set_cons_succ]
  refine k_pickT rfl _ _ _ rfl rfl rfl ?_; try simp only [Act.put, List.setIfInBounds_toArray, List.set_cons_zero, List.set_cons_succ]
  refine k_pickF rfl _ _ _ rfl rfl rfl ?_; try simp only [Act.put, List.setIfInBounds_toArray, List.set_cons_zero, List.set_cons_succ]
  refine k_end ?_
  rintro w5 rfl
  rw [HZ.out.1] at hS
  go_wp2_with (first
    | (refine st_store (b := b2) (c' := bc 32 fun _ => 0) hS rfl 23 _ _ rfl rfl word_lit_eq (by repeat (first | exact Upd.head | apply Upd.tail)) wordN_size (bc_size _ _) (bc_size _ _) (bc_one _ _) ?_; clear hS; intro w6 hS))
  refine post_cell_one 2 3 23 rfl rfl rfl rfl (hS.get (.tail .head)) wordN_type rfl wordN_size (bc_size _ _) ?_
  exact ⟨by rw [HE.out, wv_zero]; rfl, hS.frame⟩
set_option maxHeartbeats 2000000 in
set_option maxRecDepth 100000 in
theorem pword_some (yb yl : Value) (L : List Nat) (w : World) (hv : RdA [] w yb L) (hne : L ≠ []) (h : L.length ≤ 32) (h0 : L.head? ≠ some 0) : Calls Tryd.prog 8 #[.agg #[.bool false, yb, yl]] w (WordPost (.str L) w) := by
  have hS := St.start w
  obtain ⟨p, n, c, rfl⟩ := slice_keep hv
  obtain rfl := hv.len
  obtain ⟨b, o, rfl, hbw, hc⟩ := at_ofN hv hne
  have hpos := List.length_pos_iff.2 hne
  have hc0 := hc 0 hpos
  rw [Nat.add_zero] at hc0
  have HX := Lib.hid (show (((L.getD 0 0 : Nat) : Int) == 0) = false by
    cases L with
    | nil => exact absurd rfl hne
    | cons y r => simp at h0; simp; omega)
  have HC := Lib.hid (fun (w' : World) (h : Tch [] w w') => (h.cell (p := ⟨b, o, none⟩) hbw (by simp)).trans hc0)
  have HN := Lib.hid (show 0 < L.length ∧ L.length ≤ 32 from ⟨hpos, h⟩)
  obtain ⟨K, hK⟩ : ∃ K, K = 32 - L.length := ⟨_, rfl⟩
  have HE := Lib.hid (show wordOf (.str L) = some (padL L) by show (if _ then _ else _) = _; rw [if_pos ⟨h, h0⟩])
  have HP := Lib.hid (show bc 32 (wr (fun _ => 0) K L) = wv (padL L) by rw [hK]; exact wv_pad h)
  have HK := Lib.hid (show K + L.length = 32 by omega)
  have HV := Lib.hid hv
  clear hv h h0 hne hpos hc hc0 hK
  obtain ⟨z, hz, hz0⟩ : ∃ z, z = (bc 32 fun _ => 0) ∧ (Tryd.prog.info? 23).bind (·.zero) = some (.agg z) := ⟨_, rfl, word_zero⟩
  have HZ := Lib.hid (And.intro hz hz0)
  clear hz hz0
  go_enter Tryd.func8, Tryd.ntmps8
  go_upto_region 2 with (first
    | (refine st_box (L := []) hS rfl 27 _ rfl rfl ?_; clear hS; intro w1 b1 hS)
    | (refine st_new (L := [(b1, 27, #[.bool false, .slice (some ⟨b, o, none⟩) L.length c, yl])]) hS rfl 23 rfl HZ.out.2 ?_; clear hS; intro w2 b2 hS)
    | (refine st_new (L := [(b2, 23, z), (b1, 27, #[.bool false, .slice (some ⟨b, o, none⟩) L.length c, yl])]) hS rfl 23 rfl HZ.out.2 ?_; clear hS; intro w4 b4 hS))
  have d0 : w4.cell? ⟨b1, 0, none⟩ = some (.bool false) := (hS.get (.tail (.tail .head))).cell (j := 0) rfl
  have d1 : w4.cell? ⟨b1, 1, none⟩ = some (.slice (some ⟨b, o, none⟩) L.length c) := (hS.get (.tail (.tail .head))).cell (j := 1) rfl
  have d2 := HC.out _ hS.frame
  refine k_seq (C := fun w' => w' = w4) rfl ?_
  refine k_fld rfl _ _ _ rfl rfl (item_f0 _) ?_; try simp only [Act.put, List.setIfInBounds_toArray, List.set_cons_zero, List.set_cons_succ]
  refine k_cellC rfl _ _ rfl rfl (by rintro w' rfl; exact d0) bool_aggN ?_; try simp only [Act.put, List.setIfInBounds_toArray, List.set_cons_zero, List.set_cons_succ]
  refine k_boolm rfl _ rfl rfl ?_; try simp only [Act.put, List.setIfInBounds_toArray, List.set_cons_zero, List.set_cons_succ]
  refine k_fld rfl _ _ _ rfl rfl (item_f1 _) ?_; try simp only [Act.put, List.setIfInBounds_toArray, List.set_cons_zero, List.set_cons_succ]
  refine k_cellC rfl _ _ rfl rfl (by rintro w' rfl; exact d1) bytes_aggN ?_; try simp only [Act.put, List.setIfInBounds_toArray, List.set_cons_zero, List.set_cons_succ]
  refine k_lenSl rfl _ rfl rfl ?_; try simp only [Act.put, List.setIfInBounds_toArray, List.set_cons_zero, List.set_cons_succ]
  refine k_gtr rfl _ _ _ rfl rfl rfl (decide_eq_false (by have h := HN.out; omega)) ?_; try simp only [Act.put, List.setIfInBounds_toArray, List.set_cons_zero, List.set_cons_succ]
  refine k_pickF rfl _ _ _ rfl rfl rfl ?_; try simp only [Act.put, List.setIfInBounds_toArray, List.set_cons_zero, List.set_cons_succ]
  refine k_boolm rfl _ rfl rfl ?_; try simp only [Act.put, List.setIfInBounds_toArray, List.set_cons_zero, List.set_cons_succ]
  refine k_fld rfl _ _ _ rfl rfl (item_f1 _) ?_; try simp only [Act.put, List.setIfInBounds_toArray, List.set_cons_zero, List.set_cons_succ]
  refine k_cellC rfl _ _ rfl rfl (by rintro w' rfl; exact d1) bytes_aggN ?_; try simp only [Act.put, List.setIfInBounds_toArray, List.set_cons_zero, List.set_cons_succ]
  refine k_lenSl rfl _ rfl rfl ?_; try simp only [Act.put, List.setIfInBounds_toArray, List.set_cons_zero, List.set_cons_succ]
  refine k_gtr rfl _ _ _ rfl rfl rfl (decide_eq_true (by have h := HN.out; omega)) ?_; try simp only [Act.put, List.setIfInBounds_toArray, List.set_cons_zero, List.set_cons_succ]
  refine k_boolm rfl _ rfl rfl ?_; try simp only [Act.put, List.setIfInBounds_toArray, List.set_cons_zero, List.set_cons_succ]
  refine k_fld rfl _ _ _ rfl rfl (item_f1 _) ?_; try simp only [Act.put, List.setIfInBounds_toArray, List.set_cons_zero, List.set_cons_succ]
  refine k_cellC rfl _ _ rfl rfl (by rintro w' rfl; exact d1) bytes_aggN ?_; try simp only [Act.put, List.setIfInBounds_toArray, List.set_cons_zero, List.set_cons_succ]
  refine k_idxSl (j := 0) rfl _ _ _ rfl rfl rfl bytes_ty u8_size (by have h := HN.out; omega) ?_; try simp only [Act.put, List.setIfInBounds_toArray, List.set_cons_zero, List.set_cons_succ]
  refine k_cellC rfl _ _ rfl rfl (by rintro w' rfl; exact d2) u8_aggN ?_; try simp only [Act.put, List.setIfInBounds_toArray, List.set_cons_zero, List.set_cons_succ]
  refine k_eq8 (t := false) rfl _ _ _ rfl rfl rfl (HX.out) ?_; try simp only [Act.put, List.setIfInBounds_toArray, List.set_cons_zero, List.set_cons_succ]
  refine k_pickT rfl _ _ _ rfl rfl rfl ?_; try simp only [Act.put, List.setIfInBounds_toArray, List.set_cons_zero, List.set_cons_succ]
  refine k_pickF rfl _ _ _ rfl rfl rfl ?_; try simp only [Act.put, List.setIfInBounds_toArray, List.set_cons_zero, List.set_cons_succ]
  refine k_end ?_
  rintro w5 rfl
  rw [HZ.out.1] at hS
  go_upto_region 4 with fail
  have hsl : ∀ w, (Instr.sliceAt 23 (.pointer (some ⟨b4, 0, none⟩)) (some (.int .i64 (K : Int))) none none).run Tryd.prog w = .ok (.slice (ap b4 K) L.length L.length) w := by
    have h1 := arr_fromL b4 K (by have h := HK.out; omega)
    rw [show 32 - K = L.length by have h := HK.out; omega] at h1
    exact h1
  refine k_region_head (C := fun w' => St [] w w' [(b4, 23, bc 32 fun _ => 0), (b2, 23, bc 32 fun _ => 0), (b1, 27, #[.bool false, .slice (some ⟨b, o, none⟩) L.length c, yl])]) 7 (by kernel_rfl) (by kernel_rfl) hS.drew ?_
  simp only [List.take_succ_cons, List.take_zero, List.drop_succ_cons, List.drop_zero]
  refine k_fld rfl _ _ _ rfl rfl (item_f1 _) ?_; try simp only [Act.put, List.setIfInBounds_toArray, List.set_cons_zero, List.set_cons_succ]
  refine k_cellC rfl _ _ rfl rfl (fun w' h => (h.get (.tail (.tail .head))).cell (j := 1) rfl) bytes_aggN ?_; try simp only [Act.put, List.setIfInBounds_toArray, List.set_cons_zero, List.set_cons_succ]
  refine k_lenSl rfl _ rfl rfl ?_; try simp only [Act.put, List.setIfInBounds_toArray, List.set_cons_zero, List.set_cons_succ]
  refine k_sub (s := ((K : Nat) : Int)) rfl _ _ _ _ rfl rfl rfl (by have h := HK.out; rw [IntKind.wrap_i64]; omega) ?_; try simp only [Act.put, List.setIfInBounds_toArray, List.set_cons_zero, List.set_cons_succ]
  refine k_slc rfl _ _ _ rfl rfl rfl hsl ?_; try simp only [Act.put, List.setIfInBounds_toArray, List.set_cons_zero, List.set_cons_succ]
  refine k_fld rfl _ _ _ rfl rfl (item_f1 _) ?_; try simp only [Act.put, List.setIfInBounds_toArray, List.set_cons_zero, List.set_cons_succ]
  refine k_cellC rfl _ _ rfl rfl (fun w' h => (h.get (.tail (.tail .head))).cell (j := 1) rfl) bytes_aggN ?_; try simp only [Act.put, List.setIfInBounds_toArray, List.set_cons_zero, List.set_cons_succ]
  refine k_end ?_
  clear hS hsl
  intro w7 hS
  go_wp2_with (first
    | (refine copy_bytes (l := L) (at_ := K) (f := fun _ => 0) (t := 23) (n0 := 32) (b := b4) (hS.get .head) rfl (.tmp 31) (.tmp 33) rfl rfl (fun hne => ap_lt b4 (by have h := HK.out; have h2 : 0 < L.length := List.length_pos_iff.2 hne; omega)) rfl (HV.out.tch hS.frame).rdB (by have h := HK.out; omega) ?_; intro w8 hB8 hO8; replace hS := hS.upd .head hO8 hB8; rw [HP.out] at hS; clear hB8 hO8)
    | (refine st_load (b := b4) hS rfl 23 _ rfl rfl .head wordN_type rfl wordN_size (bc_size _ _) ?_)
    | (refine st_store (b := b2) (c' := wv (padL L)) hS rfl 23 _ _ rfl rfl rfl (by repeat (first | exact Upd.head | apply Upd.tail)) wordN_size (bc_size _ _) (bc_size _ _) (bc_one _ _) ?_; clear hS; intro w6 hS))
  refine post_cell_one 2 3 23 rfl rfl rfl rfl (hS.get (.tail .head)) wordN_type rfl wordN_size (bc_size _ _) ?_
  exact ⟨by rw [HE.out]; rfl, hS.frame⟩
set_option maxHeartbeats 2000000 in
set_option maxRecDepth 100000 in
theorem pword_none (yb yl : Value) (L : List Nat) (w : World) (hv : RdA [] w yb L) (hL : L = []) : Calls Tryd.prog 8 #[.agg #[.bool false, yb, yl]] w (WordPost (.str L) w) := by
  have hS := St.start w
  obtain ⟨p, n, c, rfl⟩ := slice_keep hv
  obtain rfl := hv.len
  have h : L.length ≤ 32 := by rw [hL]; decide
  have h0 : L.head? ≠ some 0 := by rw [hL]; decide
  have HN := Lib.hid (show L.length = 0 by rw [hL]; rfl)
  obtain ⟨K, hK⟩ : ∃ K, K = 32 - L.length := ⟨_, rfl⟩
  have HE := Lib.hid (show wordOf (.str L) = some (padL L) by show (if _ then _ else _) = _; rw [if_pos ⟨h, h0⟩])
  have HP := Lib.hid (show bc 32 (wr (fun _ => 0) K L) = wv (padL L) by rw [hK]; exact wv_pad h)
  have HK := Lib.hid (show K + L.length = 32 by omega)
  have HV := Lib.hid hv
  clear hv h h0 hK hL
  obtain ⟨z, hz, hz0⟩ : ∃ z, z = (bc 32 fun _ => 0) ∧ (Tryd.prog.info? 23).bind (·.zero) = some (.agg z) := ⟨_, rfl, word_zero⟩
  have HZ := Lib.hid (And.intro hz hz0)
  clear hz hz0
  go_enter Tryd.func8, Tryd.ntmps8
  go_upto_region 2 with (first
    | (refine st_box (L := []) hS rfl 27 _ rfl rfl ?_; clear hS; intro w1 b1 hS)
    | (refine st_new (L := [(b1, 27, #[.bool false, .slice p L.length c, yl])]) hS rfl 23 rfl HZ.out.2 ?_; clear hS; intro w2 b2 hS)
    | (refine st_new (L := [(b2, 23, z), (b1, 27, #[.bool false, .slice p L.length c, yl])]) hS rfl 23 rfl HZ.out.2 ?_; clear hS; intro w4 b4 hS))
  have d0 : w4.cell? ⟨b1, 0, none⟩ = some (.bool false) := (hS.get (.tail (.tail .head))).cell (j := 0) rfl
  have d1 : w4.cell? ⟨b1, 1, none⟩ = some (.slice p L.length c) := (hS.get (.tail (.tail .head))).cell (j := 1) rfl
  refine k_seq (C := fun w' => w' = w4) rfl ?_
  refine k_fld rfl _ _ _ rfl rfl (item_f0 _) ?_; try simp only [Act.put, List.setIfInBounds_toArray, List.set_cons_zero, List.set_cons_succ]
  refine k_cellC rfl _ _ rfl rfl (by rintro w' rfl; exact d0) bool_aggN ?_; try simp only [Act.put, List.setIfInBounds_toArray, List.set_cons_zero, List.set_cons_succ]
  refine k_boolm rfl _ rfl rfl ?_; try simp only [Act.put, List.setIfInBounds_toArray, List.set_cons_zero, List.set_cons_succ]
  refine k_fld rfl _ _ _ rfl rfl (item_f1 _) ?_; try simp only [Act.put, List.setIfInBounds_toArray, List.set_cons_zero, List.set_cons_succ]
  refine k_cellC rfl _ _ rfl rfl (by rintro w' rfl; exact d1) bytes_aggN ?_; try simp only [Act.put, List.setIfInBounds_toArray, List.set_cons_zero, List.set_cons_succ]
  refine k_lenSl rfl _ rfl rfl ?_; try simp only [Act.put, List.setIfInBounds_toArray, List.set_cons_zero, List.set_cons_succ]
  refine k_gtr rfl _ _ _ rfl rfl rfl (decide_eq_false (by have h := HN.out; omega)) ?_; try simp only [Act.put, List.setIfInBounds_toArray, List.set_cons_zero, List.set_cons_succ]
  refine k_pickF rfl _ _ _ rfl rfl rfl ?_; try simp only [Act.put, List.setIfInBounds_toArray, List.set_cons_zero, List.set_cons_succ]
  refine k_boolm rfl _ rfl rfl ?_; try simp only [Act.put, List.setIfInBounds_toArray, List.set_cons_zero, List.set_cons_succ]
  refine k_fld rfl _ _ _ rfl rfl (item_f1 _) ?_; try simp only [Act.put, List.setIfInBounds_toArray, List.set_cons_zero, List.set_cons_succ]
  refine k_cellC rfl _ _ rfl rfl (by rintro w' rfl; exact d1) bytes_aggN ?_; try simp only [Act.put, List.setIfInBounds_toArray, List.set_cons_zero, List.set_cons_succ]
  refine k_lenSl rfl _ rfl rfl ?_; try simp only [Act.put, List.setIfInBounds_toArray, List.set_cons_zero, List.set_cons_succ]
  refine k_gtr rfl _ _ _ rfl rfl rfl (decide_eq_false (by have h := HN.out; omega)) ?_; try simp only [Act.put, List.setIfInBounds_toArray, List.set_cons_zero, List.set_cons_succ]
  refine k_boolm rfl _ rfl rfl ?_; try simp only [Act.put, List.setIfInBounds_toArray, List.set_cons_zero, List.set_cons_succ]
  refine k_skip rfl rfl rfl rfl rfl ?_; try simp only [Act.put, List.setIfInBounds_toArray, List.set_cons_zero, List.set_cons_succ]
  refine k_skip rfl rfl rfl rfl rfl ?_; try simp only [Act.put, List.setIfInBounds_toArray, List.set_cons_zero, List.set_cons_succ]
  refine k_skip rfl rfl rfl rfl rfl ?_; try simp only [Act.put, List.setIfInBounds_toArray, List.set_cons_zero, List.set_cons_succ]
  refine k_skip rfl rfl rfl rfl rfl ?_; try simp only [Act.put, List.setIfInBounds_toArray, List.set_cons_zero, List.set_cons_succ]
  refine k_skip rfl rfl rfl rfl rfl ?_; try simp only [Act.put, List.setIfInBounds_toArray, List.set_cons_zero, List.set_cons_succ]
  refine k_pickF rfl _ _ _ rfl rfl rfl ?_; try simp only [Act.put, List.setIfInBounds_toArray, List.set_cons_zero, List.set_cons_succ]
  refine k_pickF rfl _ _ _ rfl rfl rfl ?_; try simp only [Act.put, List.setIfInBounds_toArray, List.set_cons_zero, List.set_cons_succ]
  refine k_end ?_
  rintro w5 rfl
  rw [HZ.out.1] at hS
  go_upto_region 4 with fail
  have hsl : ∀ w, (Instr.sliceAt 23 (.pointer (some ⟨b4, 0, none⟩)) (some (.int .i64 (K : Int))) none none).run Tryd.prog w = .ok (.slice (ap b4 K) L.length L.length) w := by
    have h1 := arr_fromL b4 K (by have h := HK.out; omega)
    rw [show 32 - K = L.length by have h := HK.out; omega] at h1
    exact h1
  refine k_region_head (C := fun w' => St [] w w' [(b4, 23, bc 32 fun _ => 0), (b2, 23, bc 32 fun _ => 0), (b1, 27, #[.bool false, .slice p L.length c, yl])]) 7 (by kernel_rfl) (by kernel_rfl) hS.drew ?_
  simp only [List.take_succ_cons, List.take_zero, List.drop_succ_cons, List.drop_zero]
  refine k_fld rfl _ _ _ rfl rfl (item_f1 _) ?_; try simp only [Act.put, List.setIfInBounds_toArray, List.set_cons_zero, List.set_cons_succ]
  refine k_cellC rfl _ _ rfl rfl (fun w' h => (h.get (.tail (.tail .head))).cell (j := 1) rfl) bytes_aggN ?_; try simp only [Act.put, List.setIfInBounds_toArray, List.set_cons_zero, List.set_cons_succ]
  refine k_lenSl rfl _ rfl rfl ?_; try simp only [Act.put, List.setIfInBounds_toArray, List.set_cons_zero, List.set_cons_succ]
  refine k_sub (s := ((K : Nat) : Int)) rfl _ _ _ _ rfl rfl rfl (by have h := HK.out; rw [IntKind.wrap_i64]; omega) ?_; try simp only [Act.put, List.setIfInBounds_toArray, List.set_cons_zero, List.set_cons_succ]
  refine k_slc rfl _ _ _ rfl rfl rfl hsl ?_; try simp only [Act.put, List.setIfInBounds_toArray, List.set_cons_zero, List.set_cons_succ]
  refine k_fld rfl _ _ _ rfl rfl (item_f1 _) ?_; try simp only [Act.put, List.setIfInBounds_toArray, List.set_cons_zero, List.set_cons_succ]
  refine k_cellC rfl _ _ rfl rfl (fun w' h => (h.get (.tail (.tail .head))).cell (j := 1) rfl) bytes_aggN ?_; try simp only [Act.put, List.setIfInBounds_toArray, List.set_cons_zero, List.set_cons_succ]
  refine k_end ?_
  clear hS hsl
  intro w7 hS
  go_wp2_with (first
    | (refine copy_bytes (l := L) (at_ := K) (f := fun _ => 0) (t := 23) (n0 := 32) (b := b4) (hS.get .head) rfl (.tmp 31) (.tmp 33) rfl rfl (fun hne => ap_lt b4 (by have h := HK.out; have h2 : 0 < L.length := List.length_pos_iff.2 hne; omega)) rfl (HV.out.tch hS.frame).rdB (by have h := HK.out; omega) ?_; intro w8 hB8 hO8; replace hS := hS.upd .head hO8 hB8; rw [HP.out] at hS; clear hB8 hO8)
    | (refine st_load (b := b4) hS rfl 23 _ rfl rfl .head wordN_type rfl wordN_size (bc_size _ _) ?_)
    | (refine st_store (b := b2) (c' := wv (padL L)) hS rfl 23 _ _ rfl rfl rfl (by repeat (first | exact Upd.head | apply Upd.tail)) wordN_size (bc_size _ _) (bc_size _ _) (bc_one _ _) ?_; clear hS; intro w6 hS))
  refine post_cell_one 2 3 23 rfl rfl rfl rfl (hS.get (.tail .head)) wordN_type rfl wordN_size (bc_size _ _) ?_
  exact ⟨by rw [HE.out]; rfl, hS.frame⟩
theorem pword_any (yb yl : Value) (L : List Nat) (w : World) (hv : RdA [] w yb L) : Calls Tryd.prog 8 #[.agg #[.bool false, yb, yl]] w (WordPost (.str L) w) := by
  by_cases h : L.length ≤ 32
  · cases L with
    | nil => exact pword_none yb yl [] w hv rfl
    | cons y r =>
      by_cases hy : y = 0
      · subst hy; exact pword_zero yb yl r w hv h
      · exact pword_some yb yl (y :: r) w hv (by simp) h (by simp [hy])
  · exact pword_long yb yl L w hv (by omega)
set_option maxHeartbeats 2000000 in
set_option maxRecDepth 100000 in
theorem rword_lst (yb yl : Value) (its : List It) (w : World) : Calls Tryd.prog 9 #[.agg #[.bool true, yb, yl]] w (WordPost (.lst its) w) := by
  have hS := St.start w
  obtain ⟨z, hz, hz0⟩ : ∃ z, z = (bc 32 fun _ => 0) ∧ (Tryd.prog.info? 23).bind (·.zero) = some (.agg z) := ⟨_, rfl, word_zero⟩
  have HZ := Lib.hid (And.intro hz hz0)
  clear hz hz0
  go_enter Tryd.func9, Tryd.ntmps9
  go_upto_region 2 with (first
    | (refine st_box (L := []) hS rfl 27 _ rfl rfl ?_; clear hS; intro w1 b1 hS)
    | (refine st_new (L := [(b1, 27, #[.bool true, yb, yl])]) hS rfl 23 rfl HZ.out.2 ?_; clear hS; intro w2 b2 hS)
    | (refine st_new (L := [(b2, 23, z), (b1, 27, #[.bool true, yb, yl])]) hS rfl 23 rfl HZ.out.2 ?_; clear hS; intro w4 b4 hS))
  have d0 : w4.cell? ⟨b1, 0, none⟩ = some (.bool true) := (hS.get (.tail (.tail .head))).cell (j := 0) rfl
  refine k_seq (C := fun w' => w' = w4) rfl ?_
  refine k_fld rfl _ _ _ rfl rfl (item_f0 _) ?_; try simp only [Act.put, List.setIfInBounds_toArray, List.set_cons_zero, List.set_cons_succ]
  refine k_cellC rfl _ _ rfl rfl (by rintro w' rfl; exact d0) bool_aggN ?_; try simp only [Act.put, List.setIfInBounds_toArray, List.set_cons_zero, List.set_cons_succ]
  refine k_boolm rfl _ rfl rfl ?_; try simp only [Act.put, List.setIfInBounds_toArray, List.set_cons_zero, List.set_cons_succ]
  refine k_skip rfl rfl rfl rfl rfl ?_; try simp only [Act.put, List.setIfInBounds_toArray, List.set_cons_zero, List.set_cons_succ]
  refine k_skip rfl rfl rfl rfl rfl ?_; try simp only [Act.put, List.setIfInBounds_toArray, List.set_cons_zero, List.set_cons_succ]
  refine k_skip rfl rfl rfl rfl rfl ?_; try simp only [Act.put, List.setIfInBounds_toArray, List.set_cons_zero, List.set_cons_succ]
  refine k_skip rfl rfl rfl rfl rfl ?_; try simp only [Act.put, List.setIfInBounds_toArray, List.set_cons_zero, List.set_cons_succ]
  refine k_pickT rfl _ _ _ rfl rfl rfl ?_; try simp only [Act.put, List.setIfInBounds_toArray, List.set_cons_zero, List.set_cons_succ]
  refine k_boolm rfl _ rfl rfl ?_; try simp only [Act.put, List.setIfInBounds_toArray, List.set_cons_zero, List.set_cons_succ]
  refine k_skip rfl rfl rfl rfl rfl ?_; try simp only [Act.put, List.setIfInBounds_toArray, List.set_cons_zero, List.set_cons_succ]
  refine k_skip rfl rfl rfl rfl rfl ?_; try simp only [Act.put, List.setIfInBounds_toArray, List.set_cons_zero, List.set_cons_succ]
  refine k_skip rfl rfl rfl rfl rfl ?_; try simp only [Act.put, List.setIfInBounds_toArray, List.set_cons_zero, List.set_cons_succ]
  refine k_skip rfl rfl rfl rfl rfl ?_; try simp only [Act.put, List.setIfInBounds_toArray, List.set_cons_zero, List.set_cons_succ]
  refine k_skip rfl rfl rfl rfl rfl ?_; try simp only [Act.put, List.setIfInBounds_toArray, List.set_cons_zero, List.set_cons_succ]
  refine k_skipU rfl ?_; try simp only [Act.put, List.setIfInBounds_toArray, List.set_cons_zero, List.set_cons_succ]
  refine k_skipU rfl ?_; try simp only [Act.put, List.setIfInBounds_toArray, List.set_cons_zero, List.set_cons_succ]
  refine k_skipU rfl ?_; try simp only [Act.put, List.setIfInBounds_toArray, List.set_cons_zero, List.set_cons_succ]
  refine k_skipU rfl ?_; try simp only [Act.put, List.setIfInBounds_toArray, List.set_cons_zero, List.set_cons_succ]
  refine k_skipU rfl ?_; try simp only [Act.put, List.setIfInBounds_toArray, List.set_cons_zero, List.set_cons_succ]
  refine k_skip rfl rfl rfl rfl rfl ?_; try simp only [Act.put, List.setIfInBounds_toArray, List.set_cons_zero, List.set_cons_succ]
  refine k_pickT rfl _ _ _ rfl rfl rfl ?_; try simp only [Act.put, List.setIfInBounds_toArray, List.set_cons_zero, List.set_cons_succ]
  refine k_end ?_
  rintro w5 rfl
  rw [HZ.out.1] at hS
  go_wp2_with (first
    | (refine st_load (b := b4) hS rfl 23 _ rfl rfl .head wordN_type rfl wordN_size (bc_size _ _) ?_)
    | (refine st_store (b := b2) (c' := bc 32 fun _ => 0) hS rfl 23 _ _ rfl rfl rfl (by repeat (first | exact Upd.head | apply Upd.tail)) wordN_size (bc_size _ _) (bc_size _ _) (bc_one _ _) ?_; clear hS; intro w6 hS))
  refine post_cell_one 2 3 23 rfl rfl rfl rfl (hS.get (.tail .head)) wordN_type rfl wordN_size (bc_size _ _) ?_
  exact ⟨by rw [wv_zero]; rfl, hS.frame⟩
set_option maxHeartbeats 2000000 in
set_option maxRecDepth 100000 in
theorem rword_long (yb yl : Value) (L : List Nat) (w : World) (hv : RdA [] w yb L) (h : 32 < L.length) : Calls Tryd.prog 9 #[.agg #[.bool false, yb, yl]] w (WordPost (.str L) w) := by
  have hS := St.start w
  obtain ⟨p, n, c, rfl⟩ := slice_keep hv
  have hlen := hv.len
  have HN := Lib.hid (show 32 < n by omega)
  have HE := Lib.hid (show wordOf (.str L) = none by show (if _ then _ else _) = _; rw [if_neg (fun h' => by omega)])
  clear hv hlen h
  obtain ⟨z, hz, hz0⟩ : ∃ z, z = (bc 32 fun _ => 0) ∧ (Tryd.prog.info? 23).bind (·.zero) = some (.agg z) := ⟨_, rfl, word_zero⟩
  have HZ := Lib.hid (And.intro hz hz0)
  clear hz hz0
  go_enter Tryd.func9, Tryd.ntmps9
  go_upto_region 2 with (first
    | (refine st_box (L := []) hS rfl 27 _ rfl rfl ?_; clear hS; intro w1 b1 hS)
    | (refine st_new (L := [(b1, 27, #[.bool false, .slice p n c, yl])]) hS rfl 23 rfl HZ.out.2 ?_; clear hS; intro w2 b2 hS)
    | (refine st_new (L := [(b2, 23, z), (b1, 27, #[.bool false, .slice p n c, yl])]) hS rfl 23 rfl HZ.out.2 ?_; clear hS; intro w4 b4 hS))
  have d0 : w4.cell? ⟨b1, 0, none⟩ = some (.bool false) := (hS.get (.tail (.tail .head))).cell (j := 0) rfl
  have d1 : w4.cell? ⟨b1, 1, none⟩ = some (.slice p n c) := (hS.get (.tail (.tail .head))).cell (j := 1) rfl
  refine k_seq (C := fun w' => w' = w4) rfl ?_
  refine k_fld rfl _ _ _ rfl rfl (item_f0 _) ?_; try simp only [Act.put, List.setIfInBounds_toArray, List.set_cons_zero, List.set_cons_succ]
  refine k_cellC rfl _ _ rfl rfl (by rintro w' rfl; exact d0) bool_aggN ?_; try simp only [Act.put, List.setIfInBounds_toArray, List.set_cons_zero, List.set_cons_succ]
  refine k_boolm rfl _ rfl rfl ?_; try simp only [Act.put, List.setIfInBounds_toArray, List.set_cons_zero, List.set_cons_succ]
  refine k_fld rfl _ _ _ rfl rfl (item_f1 _) ?_; try simp only [Act.put, List.setIfInBounds_toArray, List.set_cons_zero, List.set_cons_succ]
  refine k_cellC rfl _ _ rfl rfl (by rintro w' rfl; exact d1) bytes_aggN ?_; try simp only [Act.put, List.setIfInBounds_toArray, List.set_cons_zero, List.set_cons_succ]
  refine k_lenSl rfl _ rfl rfl ?_; try simp only [Act.put, List.setIfInBounds_toArray, List.set_cons_zero, List.set_cons_succ]
  refine k_gtr rfl _ _ _ rfl rfl rfl (decide_eq_true (by have h := HN.out; omega)) ?_; try simp only [Act.put, List.setIfInBounds_toArray, List.set_cons_zero, List.set_cons_succ]
  refine k_pickF rfl _ _ _ rfl rfl rfl ?_; try simp only [Act.put, List.setIfInBounds_toArray, List.set_cons_zero, List.set_cons_succ]
  refine k_boolm rfl _ rfl rfl ?_; try simp only [Act.put, List.setIfInBounds_toArray, List.set_cons_zero, List.set_cons_succ]
  refine k_skip rfl rfl rfl rfl rfl ?_; try simp only [Act.put, List.setIfInBounds_toArray, List.set_cons_zero, List.set_cons_succ]
  refine k_skip rfl rfl rfl rfl rfl ?_; try simp only [Act.put, List.setIfInBounds_toArray, List.set_cons_zero, List.set_cons_succ]
  refine k_skip rfl rfl rfl rfl rfl ?_; try simp only [Act.put, List.setIfInBounds_toArray, List.set_cons_zero, List.set_cons_succ]
  refine k_skip rfl rfl rfl rfl rfl ?_; try simp only [Act.put, List.setIfInBounds_toArray, List.set_cons_zero, List.set_cons_succ]
  refine k_skip rfl rfl rfl rfl rfl ?_; try simp only [Act.put, List.setIfInBounds_toArray, List.set_cons_zero, List.set_cons_succ]
  refine k_skipU rfl ?_; try simp only [Act.put, List.setIfInBounds_toArray, List.set_cons_zero, List.set_cons_succ]
  refine k_skipU rfl ?_; try simp only [Act.put, List.setIfInBounds_toArray, List.set_cons_zero, List.set_cons_succ]
  refine k_skipU rfl ?_; try simp only [Act.put, List.setIfInBounds_toArray, List.set_cons_zero, List.set_cons_succ]
  refine k_skipU rfl ?_; try simp only [Act.put, List.setIfInBounds_toArray, List.set_cons_zero, List.set_cons_succ]
  refine k_skipU rfl ?_; try simp only [Act.put, List.setIfInBounds_toArray, List.set_cons_zero, List.set_cons_succ]
  refine k_skip rfl rfl rfl rfl rfl ?_; try simp only [Act.put, List.setIfInBounds_toArray, List.set_cons_zero, List.set_cons_succ]
  refine k_pickT rfl _ _ _ rfl rfl rfl ?_; try simp only [Act.put, List.setIfInBounds_toArray, List.set_cons_zero, List.set_cons_succ]
  refine k_end ?_
  rintro w5 rfl
  rw [HZ.out.1] at hS
  go_wp2_with (first
    | (refine st_load (b := b4) hS rfl 23 _ rfl rfl .head wordN_type rfl wordN_size (bc_size _ _) ?_)
    | (refine st_store (b := b2) (c' := bc 32 fun _ => 0) hS rfl 23 _ _ rfl rfl rfl (by repeat (first | exact Upd.head | apply Upd.tail)) wordN_size (bc_size _ _) (bc_size _ _) (bc_one _ _) ?_; clear hS; intro w6 hS))
  refine post_cell_one 2 3 23 rfl rfl rfl rfl (hS.get (.tail .head)) wordN_type rfl wordN_size (bc_size _ _) ?_
  exact ⟨by rw [HE.out, wv_zero]; rfl, hS.frame⟩
set_option maxHeartbeats 2000000 in
set_option maxRecDepth 100000 in
theorem rword_zero (yb yl : Value) (r : List Nat) (w : World) (hv : RdA [] w yb (0 :: r)) (h : (0 :: r).length ≤ 32) : Calls Tryd.prog 9 #[.agg #[.bool false, yb, yl]] w (WordPost (.str (0 :: r)) w) := by
  have hS := St.start w
  obtain ⟨p, n, c, rfl⟩ := slice_keep hv
  have hlen := hv.len
  obtain ⟨b, o, rfl, hbw, hc⟩ := at_ofN hv (by simp)
  have hc0 := hc 0 (by simp)
  rw [Nat.add_zero] at hc0
  simp only [List.getD_cons_zero] at hc0
  have HC := Lib.hid (fun (w' : World) (h : Tch [] w w') => (h.cell (p := ⟨b, o, none⟩) hbw (by simp)).trans hc0)
  have HN := Lib.hid (show 0 < n ∧ n ≤ 32 by simp only [List.length_cons] at hlen h; omega)
  have HE := Lib.hid (show wordOf (.str (0 :: r)) = none by show (if _ then _ else _) = _; rw [if_neg (fun h' => h'.2 rfl)])
  clear hv hlen h hc hc0
  obtain ⟨z, hz, hz0⟩ : ∃ z, z = (bc 32 fun _ => 0) ∧ (Tryd.prog.info? 23).bind (·.zero) = some (.agg z) := ⟨_, rfl, word_zero⟩
  have HZ := Lib.hid (And.intro hz hz0)
  clear hz hz0
  go_enter Tryd.func9, Tryd.ntmps9
  go_upto_region 2 with (first
    | (refine st_box (L := []) hS rfl 27 _ rfl rfl ?_; clear hS; intro w1 b1 hS)
    | (refine st_new (L := [(b1, 27, #[.bool false, .slice (some ⟨b, o, none⟩) n c, yl])]) hS rfl 23 rfl HZ.out.2 ?_; clear hS; intro w2 b2 hS)
    | (refine st_new (L := [(b2, 23, z), (b1, 27, #[.bool false, .slice (some ⟨b, o, none⟩) n c, yl])]) hS rfl 23 rfl HZ.out.2 ?_; clear hS; intro w4 b4 hS))
  have d0 : w4.cell? ⟨b1, 0, none⟩ = some (.bool false) := (hS.get (.tail (.tail .head))).cell (j := 0) rfl
  have d1 : w4.cell? ⟨b1, 1, none⟩ = some (.slice (some ⟨b, o, none⟩) n c) := (hS.get (.tail (.tail .head))).cell (j := 1) rfl
  have d2 := HC.out _ hS.frame
  refine k_seq (C := fun w' => w' = w4) rfl ?_
  refine k_fld rfl _ _ _ rfl rfl (item_f0 _) ?_; try simp only [Act.put, List.setIfInBounds_toArray, List.set_cons_zero, List.set_cons_succ]
  refine k_cellC rfl _ _ rfl rfl (by rintro w' rfl; exact d0) bool_aggN ?_; try simp only [Act.put, List.setIfInBounds_toArray, List.set_cons_zero, List.set_cons_succ]
  refine k_boolm rfl _ rfl rfl ?_; try simp only [Act.put, List.setIfInBounds_toArray, List.set_cons_zero, List.set_cons_succ]
  refine k_fld rfl _ _ _ rfl rfl (item_f1 _) ?_; try simp only [Act.put, List.setIfInBounds_toArray, List.set_cons_zero, List.set_cons_succ]
  refine k_cellC rfl _ _ rfl rfl (by rintro w' rfl; exact d1) bytes_aggN ?_; try simp only [Act.put, List.setIfInBounds_toArray, List.set_cons_zero, List.set_cons_succ]
  refine k_lenSl rfl _ rfl rfl ?_; try simp only [Act.put, List.setIfInBounds_toArray, List.set_cons_zero, List.set_cons_succ]
  refine k_gtr rfl _ _ _ rfl rfl rfl (decide_eq_false (by have h := HN.out; omega)) ?_; try simp only [Act.put, List.setIfInBounds_toArray, List.set_cons_zero, List.set_cons_succ]
  refine k_pickF rfl _ _ _ rfl rfl rfl ?_; try simp only [Act.put, List.setIfInBounds_toArray, List.set_cons_zero, List.set_cons_succ]
  refine k_boolm rfl _ rfl rfl ?_; try simp only [Act.put, List.setIfInBounds_toArray, List.set_cons_zero, List.set_cons_succ]
  refine k_fld rfl _ _ _ rfl rfl (item_f1 _) ?_; try simp only [Act.put, List.setIfInBounds_toArray, List.set_cons_zero, List.set_cons_succ]
  refine k_cellC rfl _ _ rfl rfl (by rintro w' rfl; exact d1) bytes_aggN ?_; try simp only [Act.put, List.setIfInBounds_toArray, List.set_cons_zero, List.set_cons_succ]
  refine k_lenSl rfl _ rfl rfl ?_; try simp only [Act.put, List.setIfInBounds_toArray, List.set_cons_zero, List.set_cons_succ]
  refine k_gtr rfl _ _ _ rfl rfl rfl (decide_eq_true (by have h := HN.out; omega)) ?_; try simp only [Act.put, List.setIfInBounds_toArray, List.set_cons_zero, List.set_cons_succ]
  refine k_boolm rfl _ rfl rfl ?_; try simp only [Act.put, List.setIfInBounds_toArray, List.set_cons_zero, List.set_cons_succ]
  refine k_fld rfl _ _ _ rfl rfl (item_f1 _) ?_; try simp only [Act.put, List.setIfInBounds_toArray, List.set_cons_zero, List.set_cons_succ]
  refine k_cellC rfl _ _ rfl rfl (by rintro w' rfl; exact d1) bytes_aggN ?_; try simp only [Act.put, List.setIfInBounds_toArray, List.set_cons_zero, List.set_cons_succ]
  refine k_idxSl (j := 0) rfl _ _ _ rfl rfl rfl bytes_ty u8_size (by have h := HN.out; omega) ?_; try simp only [Act.put, List.setIfInBounds_toArray, List.set_cons_zero, List.set_cons_succ]
  refine k_cellC rfl _ _ rfl rfl (by rintro w' rfl; exact d2) u8_aggN ?_; try simp only [Act.put, List.setIfInBounds_toArray, List.set_cons_zero, List.set_cons_succ]
  refine k_eq8 (t := true) rfl _ _ _ rfl rfl rfl (rfl) ?_; try simp only [Act.put, List.setIfInBounds_toArray, List.set_cons_zero, List.set_cons_succ]
  refine k_pickT rfl _ _ _ rfl rfl rfl ?_; try simp only [Act.put, List.setIfInBounds_toArray, List.set_cons_zero, List.set_cons_succ]
  refine k_pickF rfl _ _ _ rfl rfl rfl ?_; try simp only [Act.put, List.setIfInBounds_toArray, List.set_cons_zero, List.set_cons_succ]
  refine k_end ?_
  rintro w5 rfl
  rw [HZ.out.1] at hS
  go_wp2_with (first
    | (refine st_load (b := b4) hS rfl 23 _ rfl rfl .head wordN_type rfl wordN_size (bc_size _ _) ?_)
    | (refine st_store (b := b2) (c' := bc 32 fun _ => 0) hS rfl 23 _ _ rfl rfl rfl (by repeat (first | exact Upd.head | apply Upd.tail)) wordN_size (bc_size _ _) (bc_size _ _) (bc_one _ _) ?_; clear hS; intro w6 hS))
  refine post_cell_one 2 3 23 rfl rfl rfl rfl (hS.get (.tail .head)) wordN_type rfl wordN_size (bc_size _ _) ?_
  exact ⟨by rw [HE.out, wv_zero]; rfl, hS.frame⟩
set_option maxHeartbeats 2000000 in
set_option maxRecDepth 100000 in
theorem rword_some (yb yl : Value) (L : List Nat) (w : World) (hv : RdA [] w yb L) (hne : L ≠ []) (h : L.length ≤ 32) (h0 : L.head? ≠ some 0) : Calls Tryd.prog 9 #[.agg #[.bool false, yb, yl]] w (WordPost (.str L) w) := by
  have hS := St.start w
  obtain ⟨p, n, c, rfl⟩ := slice_keep hv
  obtain rfl := hv.len
  obtain ⟨b, o, rfl, hbw, hc⟩ := at_ofN hv hne
  have hpos := List.length_pos_iff.2 hne
  have hc0 := hc 0 hpos
  rw [Nat.add_zero] at hc0
  have HX := Lib.hid (show (((L.getD 0 0 : Nat) : Int) == 0) = false by
    cases L with
    | nil => exact absurd rfl hne
    | cons y r => simp at h0; simp; omega)
  have HC := Lib.hid (fun (w' : World) (h : Tch [] w w') => (h.cell (p := ⟨b, o, none⟩) hbw (by simp)).trans hc0)
  have HN := Lib.hid (show 0 < L.length ∧ L.length ≤ 32 from ⟨hpos, h⟩)
  obtain ⟨K, hK⟩ : ∃ K, K = 32 - L.length := ⟨_, rfl⟩
  have HE := Lib.hid (show wordOf (.str L) = some (padL L) by show (if _ then _ else _) = _; rw [if_pos ⟨h, h0⟩])
  have HP := Lib.hid (show bc 32 (wr (fun _ => 0) K L) = wv (padL L) by rw [hK]; exact wv_pad h)
  have HK := Lib.hid (show K + L.length = 32 by omega)
  have HV := Lib.hid hv
  clear hv h h0 hne hpos hc hc0 hK
  obtain ⟨z, hz, hz0⟩ : ∃ z, z = (bc 32 fun _ => 0) ∧ (Tryd.prog.info? 23).bind (·.zero) = some (.agg z) := ⟨_, rfl, word_zero⟩
  have HZ := Lib.hid (And.intro hz hz0)
  clear hz hz0
  go_enter Tryd.func9, Tryd.ntmps9
  go_upto_region 2 with (first
    | (refine st_box (L := []) hS rfl 27 _ rfl rfl ?_; clear hS; intro w1 b1 hS)
    | (refine st_new (L := [(b1, 27, #[.bool false, .slice (some ⟨b, o, none⟩) L.length c, yl])]) hS rfl 23 rfl HZ.out.2 ?_; clear hS; intro w2 b2 hS)
    | (refine st_new (L := [(b2, 23, z), (b1, 27, #[.bool false, .slice (some ⟨b, o, none⟩) L.length c, yl])]) hS rfl 23 rfl HZ.out.2 ?_; clear hS; intro w4 b4 hS))
  have d0 : w4.cell? ⟨b1, 0, none⟩ = some (.bool false) := (hS.get (.tail (.tail .head))).cell (j := 0) rfl
  have d1 : w4.cell? ⟨b1, 1, none⟩ = some (.slice (some ⟨b, o, none⟩) L.length c) := (hS.get (.tail (.tail .head))).cell (j := 1) rfl
  have d2 := HC.out _ hS.frame
  refine k_seq (C := fun w' => w' = w4) rfl ?_
  refine k_fld rfl _ _ _ rfl rfl (item_f0 _) ?_; try simp only [Act.put, List.setIfInBounds_toArray, List.set_cons_zero, List.set_cons_succ]
  refine k_cellC rfl _ _ rfl rfl (by rintro w' rfl; exact d0) bool_aggN ?_; try simp only [Act.put, List.setIfInBounds_toArray, List.set_cons_zero, List.set_cons_succ]
  refine k_boolm rfl _ rfl rfl ?_; try simp only [Act.put, List.setIfInBounds_toArray, List.set_cons_zero, List.set_cons_succ]
  refine k_fld rfl _ _ _ rfl rfl (item_f1 _) ?_; try simp only [Act.put, List.setIfInBounds_toArray, List.set_cons_zero, List.set_cons_succ]
  refine k_cellC rfl _ _ rfl rfl (by rintro w' rfl; exact d1) bytes_aggN ?_; try simp only [Act.put, List.setIfInBounds_toArray, List.set_cons_zero, List.set_cons_succ]
  refine k_lenSl rfl _ rfl rfl ?_; try simp only [Act.put, List.setIfInBounds_toArray, List.set_cons_zero, List.set_cons_succ]
  refine k_gtr rfl _ _ _ rfl rfl rfl (decide_eq_false (by have h := HN.out; omega)) ?_; try simp only [Act.put, List.setIfInBounds_toArray, List.set_cons_zero, List.set_cons_succ]
  refine k_pickF rfl _ _ _ rfl rfl rfl ?_; try simp only [Act.put, List.setIfInBounds_toArray, List.set_cons_zero, List.set_cons_succ]
  refine k_boolm rfl _ rfl rfl ?_; try simp only [Act.put, List.setIfInBounds_toArray, List.set_cons_zero, List.set_cons_succ]
  refine k_fld rfl _ _ _ rfl rfl (item_f1 _) ?_; try simp only [Act.put, List.setIfInBounds_toArray, List.set_cons_zero, List.set_cons_succ]
  refine k_cellC rfl _ _ rfl rfl (by rintro w' rfl; exact d1) bytes_aggN ?_; try simp only [Act.put, List.setIfInBounds_toArray, List.set_cons_zero, List.set_cons_succ]
  refine k_lenSl rfl _ rfl rfl ?_; try simp only [Act.put, List.setIfInBounds_toArray, List.set_cons_zero, List.set_cons_succ]
  refine k_gtr rfl _ _ _ rfl rfl rfl (decide_eq_true (by have h := HN.out; omega)) ?_; try simp only [Act.put, List.setIfInBounds_toArray, List.set_cons_zero, List.set_cons_succ]
  refine k_boolm rfl _ rfl rfl ?_; try simp only [Act.put, List.setIfInBounds_toArray, List.set_cons_zero, List.set_cons_succ]
  refine k_fld rfl _ _ _ rfl rfl (item_f1 _) ?_; try simp only [Act.put, List.setIfInBounds_toArray, List.set_cons_zero, List.set_cons_succ]
  refine k_cellC rfl _ _ rfl rfl (by rintro w' rfl; exact d1) bytes_aggN ?_; try simp only [Act.put, List.setIfInBounds_toArray, List.set_cons_zero, List.set_cons_succ]
  refine k_idxSl (j := 0) rfl _ _ _ rfl rfl rfl bytes_ty u8_size (by have h := HN.out; omega) ?_; try simp only [Act.put, List.setIfInBounds_toArray, List.set_cons_zero, List.set_cons_succ]
  refine k_cellC rfl _ _ rfl rfl (by rintro w' rfl; exact d2) u8_aggN ?_; try simp only [Act.put, List.setIfInBounds_toArray, List.set_cons_zero, List.set_cons_succ]
  refine k_eq8 (t := false) rfl _ _ _ rfl rfl rfl (HX.out) ?_; try simp only [Act.put, List.setIfInBounds_toArray, List.set_cons_zero, List.set_cons_succ]
  refine k_pickT rfl _ _ _ rfl rfl rfl ?_; try simp only [Act.put, List.setIfInBounds_toArray, List.set_cons_zero, List.set_cons_succ]
  refine k_pickF rfl _ _ _ rfl rfl rfl ?_; try simp only [Act.put, List.setIfInBounds_toArray, List.set_cons_zero, List.set_cons_succ]
  refine k_end ?_
  rintro w5 rfl
  rw [HZ.out.1] at hS
  go_upto_region 4 with fail
  have hsl : ∀ w, (Instr.sliceAt 23 (.pointer (some ⟨b4, 0, none⟩)) (some (.int .i64 (K : Int))) none none).run Tryd.prog w = .ok (.slice (ap b4 K) L.length L.length) w := by
    have h1 := arr_fromL b4 K (by have h := HK.out; omega)
    rw [show 32 - K = L.length by have h := HK.out; omega] at h1
    exact h1
  refine k_region_head (C := fun w' => St [] w w' [(b4, 23, bc 32 fun _ => 0), (b2, 23, bc 32 fun _ => 0), (b1, 27, #[.bool false, .slice (some ⟨b, o, none⟩) L.length c, yl])]) 7 (by kernel_rfl) (by kernel_rfl) hS.drew ?_
  simp only [List.take_succ_cons, List.take_zero, List.drop_succ_cons, List.drop_zero]
  refine k_fld rfl _ _ _ rfl rfl (item_f1 _) ?_; try simp only [Act.put, List.setIfInBounds_toArray, List.set_cons_zero, List.set_cons_succ]
  refine k_cellC rfl _ _ rfl rfl (fun w' h => (h.get (.tail (.tail .head))).cell (j := 1) rfl) bytes_aggN ?_; try simp only [Act.put, List.setIfInBounds_toArray, List.set_cons_zero, List.set_cons_succ]
  refine k_lenSl rfl _ rfl rfl ?_; try simp only [Act.put, List.setIfInBounds_toArray, List.set_cons_zero, List.set_cons_succ]
  refine k_sub (s := ((K : Nat) : Int)) rfl _ _ _ _ rfl rfl rfl (by have h := HK.out; rw [IntKind.wrap_i64]; omega) ?_; try simp only [Act.put, List.setIfInBounds_toArray, List.set_cons_zero, List.set_cons_succ]
  refine k_slc rfl _ _ _ rfl rfl rfl hsl ?_; try simp only [Act.put, List.setIfInBounds_toArray, List.set_cons_zero, List.set_cons_succ]
  refine k_fld rfl _ _ _ rfl rfl (item_f1 _) ?_; try simp only [Act.put, List.setIfInBounds_toArray, List.set_cons_zero, List.set_cons_succ]
  refine k_cellC rfl _ _ rfl rfl (fun w' h => (h.get (.tail (.tail .head))).cell (j := 1) rfl) bytes_aggN ?_; try simp only [Act.put, List.setIfInBounds_toArray, List.set_cons_zero, List.set_cons_succ]
  refine k_end ?_
  clear hS hsl
  intro w7 hS
  go_wp2_with (first
    | (refine copy_bytes (l := L) (at_ := K) (f := fun _ => 0) (t := 23) (n0 := 32) (b := b4) (hS.get .head) rfl (.tmp 31) (.tmp 33) rfl rfl (fun hne => ap_lt b4 (by have h := HK.out; have h2 : 0 < L.length := List.length_pos_iff.2 hne; omega)) rfl (HV.out.tch hS.frame).rdB (by have h := HK.out; omega) ?_; intro w8 hB8 hO8; replace hS := hS.upd .head hO8 hB8; rw [HP.out] at hS; clear hB8 hO8)
    | (refine st_load (b := b4) hS rfl 23 _ rfl rfl .head wordN_type rfl wordN_size (bc_size _ _) ?_)
    | (refine st_store (b := b2) (c' := wv (padL L)) hS rfl 23 _ _ rfl rfl rfl (by repeat (first | exact Upd.head | apply Upd.tail)) wordN_size (bc_size _ _) (bc_size _ _) (bc_one _ _) ?_; clear hS; intro w6 hS))
  refine post_cell_one 2 3 23 rfl rfl rfl rfl (hS.get (.tail .head)) wordN_type rfl wordN_size (bc_size _ _) ?_
  exact ⟨by rw [HE.out]; rfl, hS.frame⟩
set_option maxHeartbeats 2000000 in
set_option maxRecDepth 100000 in
theorem rword_none (yb yl : Value) (L : List Nat) (w : World) (hv : RdA [] w yb L) (hL : L = []) : Calls Tryd.prog 9 #[.agg #[.bool false, yb, yl]] w (WordPost (.str L) w) := by
  have hS := St.start w
  obtain ⟨p, n, c, rfl⟩ := slice_keep hv
  obtain rfl := hv.len
  have h : L.length ≤ 32 := by rw [hL]; decide
  have h0 : L.head? ≠ some 0 := by rw [hL]; decide
  have HN := Lib.hid (show L.length = 0 by rw [hL]; rfl)
  obtain ⟨K, hK⟩ : ∃ K, K = 32 - L.length := ⟨_, rfl⟩
  have HE := Lib.hid (show wordOf (.str L) = some (padL L) by show (if _ then _ else _) = _; rw [if_pos ⟨h, h0⟩])
  have HP := Lib.hid (show bc 32 (wr (fun _ => 0) K L) = wv (padL L) by rw [hK]; exact wv_pad h)
  have HK := Lib.hid (show K + L.length = 32 by omega)
  have HV := Lib.hid hv
  clear hv h h0 hK hL
  obtain ⟨z, hz, hz0⟩ : ∃ z, z = (bc 32 fun _ => 0) ∧ (Tryd.prog.info? 23).bind (·.zero) = some (.agg z) := ⟨_, rfl, word_zero⟩
  have HZ := Lib.hid (And.intro hz hz0)
  clear hz hz0
  go_enter Tryd.func9, Tryd.ntmps9
  go_upto_region 2 with (first
    | (refine st_box (L := []) hS rfl 27 _ rfl rfl ?_; clear hS; intro w1 b1 hS)
    | (refine st_new (L := [(b1, 27, #[.bool false, .slice p L.length c, yl])]) hS rfl 23 rfl HZ.out.2 ?_; clear hS; intro w2 b2 hS)
    | (refine st_new (L := [(b2, 23, z), (b1, 27, #[.bool false, .slice p L.length c, yl])]) hS rfl 23 rfl HZ.out.2 ?_; clear hS; intro w4 b4 hS))
  have d0 : w4.cell? ⟨b1, 0, none⟩ = some (.bool false) := (hS.get (.tail (.tail .head))).cell (j := 0) rfl
  have d1 : w4.cell? ⟨b1, 1, none⟩ = some (.slice p L.length c) := (hS.get (.tail (.tail .head))).cell (j := 1) rfl
  refine k_seq (C := fun w' => w' = w4) rfl ?_
  refine k_fld rfl _ _ _ rfl rfl (item_f0 _) ?_; try simp only [Act.put, List.setIfInBounds_toArray, List.set_cons_zero, List.set_cons_succ]
  refine k_cellC rfl _ _ rfl rfl (by rintro w' rfl; exact d0) bool_aggN ?_; try simp only [Act.put, List.setIfInBounds_toArray, List.set_cons_zero, List.set_cons_succ]
  refine k_boolm rfl _ rfl rfl ?_; try simp only [Act.put, List.setIfInBounds_toArray, List.set_cons_zero, List.set_cons_succ]
  refine k_fld rfl _ _ _ rfl rfl (item_f1 _) ?_; try simp only [Act.put, List.setIfInBounds_toArray, List.set_cons_zero, List.set_cons_succ]
  refine k_cellC rfl _ _ rfl rfl (by rintro w' rfl; exact d1) bytes_aggN ?_; try simp only [Act.put, List.setIfInBounds_toArray, List.set_cons_zero, List.set_cons_succ]
  refine k_lenSl rfl _ rfl rfl ?_; try simp only [Act.put, List.setIfInBounds_toArray, List.set_cons_zero, List.set_cons_succ]
  refine k_gtr rfl _ _ _ rfl rfl rfl (decide_eq_false (by have h := HN.out; omega)) ?_; try simp only [Act.put, List.setIfInBounds_toArray, List.set_cons_zero, List.set_cons_succ]
  refine k_pickF rfl _ _ _ rfl rfl rfl ?_; try simp only [Act.put, List.setIfInBounds_toArray, List.set_cons_zero, List.set_cons_succ]
  refine k_boolm rfl _ rfl rfl ?_; try simp only [Act.put, List.setIfInBounds_toArray, List.set_cons_zero, List.set_cons_succ]
  refine k_fld rfl _ _ _ rfl rfl (item_f1 _) ?_; try simp only [Act.put, List.setIfInBounds_toArray, List.set_cons_zero, List.set_cons_succ]
  refine k_cellC rfl _ _ rfl rfl (by rintro w' rfl; exact d1) bytes_aggN ?_; try simp only [Act.put, List.setIfInBounds_toArray, List.set_cons_zero, List.set_cons_succ]
  refine k_lenSl rfl _ rfl rfl ?_; try simp only [Act.put, List.setIfInBounds_toArray, List.set_cons_zero, List.set_cons_succ]
  refine k_gtr rfl _ _ _ rfl rfl rfl (decide_eq_false (by have h := HN.out; omega)) ?_; try simp only [Act.put, List.setIfInBounds_toArray, List.set_cons_zero, List.set_cons_succ]
  refine k_boolm rfl _ rfl rfl ?_; try simp only [Act.put, List.setIfInBounds_toArray, List.set_cons_zero, List.set_cons_succ]
  refine k_skip rfl rfl rfl rfl rfl ?_; try simp only [Act.put, List.setIfInBounds_toArray, List.set_cons_zero, List.set_cons_succ]
  refine k_skip rfl rfl rfl rfl rfl ?_; try simp only [Act.put, List.setIfInBounds_toArray, List.set_cons_zero, List.set_cons_succ]
  refine k_skip rfl rfl rfl rfl rfl ?_; try simp only [Act.put, List.setIfInBounds_toArray, List.set_cons_zero, List.set_cons_succ]
  refine k_skip rfl rfl rfl rfl rfl ?_; try simp only [Act.put, List.setIfInBounds_toArray, List.set_cons_zero, List.set_cons_succ]
  refine k_skip rfl rfl rfl rfl rfl ?_; try simp only [Act.put, List.setIfInBounds_toArray, List.set_cons_zero, List.set_cons_succ]
  refine k_pickF rfl _ _ _ rfl rfl rfl ?_; try simp only [Act.put, List.setIfInBounds_toArray, List.set_cons_zero, List.set_cons_succ]
  refine k_pickF rfl _ _ _ rfl rfl rfl ?_; try simp only [Act.put, List.setIfInBounds_toArray, List.set_cons_zero, List.set_cons_succ]
  refine k_end ?_
  rintro w5 rfl
  rw [HZ.out.1] at hS
  go_upto_region 4 with fail
  have hsl : ∀ w, (Instr.sliceAt 23 (.pointer (some ⟨b4, 0, none⟩)) (some (.int .i64 (K : Int))) none none).run Tryd.prog w = .ok (.slice (ap b4 K) L.length L.length) w := by
    have h1 := arr_fromL b4 K (by have h := HK.out; omega)
    rw [show 32 - K = L.length by have h := HK.out; omega] at h1
    exact h1
  refine k_region_head (C := fun w' => St [] w w' [(b4, 23, bc 32 fun _ => 0), (b2, 23, bc 32 fun _ => 0), (b1, 27, #[.bool false, .slice p L.length c, yl])]) 7 (by kernel_rfl) (by kernel_rfl) hS.drew ?_
  simp only [List.take_succ_cons, List.take_zero, List.drop_succ_cons, List.drop_zero]
  refine k_fld rfl _ _ _ rfl rfl (item_f1 _) ?_; try simp only [Act.put, List.setIfInBounds_toArray, List.set_cons_zero, List.set_cons_succ]
  refine k_cellC rfl _ _ rfl rfl (fun w' h => (h.get (.tail (.tail .head))).cell (j := 1) rfl) bytes_aggN ?_; try simp only [Act.put, List.setIfInBounds_toArray, List.set_cons_zero, List.set_cons_succ]
  refine k_lenSl rfl _ rfl rfl ?_; try simp only [Act.put, List.setIfInBounds_toArray, List.set_cons_zero, List.set_cons_succ]
  refine k_sub (s := ((K : Nat) : Int)) rfl _ _ _ _ rfl rfl rfl (by have h := HK.out; rw [IntKind.wrap_i64]; omega) ?_; try simp only [Act.put, List.setIfInBounds_toArray, List.set_cons_zero, List.set_cons_succ]
  refine k_slc rfl _ _ _ rfl rfl rfl hsl ?_; try simp only [Act.put, List.setIfInBounds_toArray, List.set_cons_zero, List.set_cons_succ]
  refine k_fld rfl _ _ _ rfl rfl (item_f1 _) ?_; try simp only [Act.put, List.setIfInBounds_toArray, List.set_cons_zero, List.set_cons_succ]
  refine k_cellC rfl _ _ rfl rfl (fun w' h => (h.get (.tail (.tail .head))).cell (j := 1) rfl) bytes_aggN ?_; try simp only [Act.put, List.setIfInBounds_toArray, List.set_cons_zero, List.set_cons_succ]
  refine k_end ?_
  clear hS hsl
  intro w7 hS
  go_wp2_with (first
    | (refine copy_bytes (l := L) (at_ := K) (f := fun _ => 0) (t := 23) (n0 := 32) (b := b4) (hS.get .head) rfl (.tmp 31) (.tmp 33) rfl rfl (fun hne => ap_lt b4 (by have h := HK.out; have h2 : 0 < L.length := List.length_pos_iff.2 hne; omega)) rfl (HV.out.tch hS.frame).rdB (by have h := HK.out; omega) ?_; intro w8 hB8 hO8; replace hS := hS.upd .head hO8 hB8; rw [HP.out] at hS; clear hB8 hO8)
    | (refine st_load (b := b4) hS rfl 23 _ rfl rfl .head wordN_type rfl wordN_size (bc_size _ _) ?_)
    | (refine st_store (b := b2) (c' := wv (padL L)) hS rfl 23 _ _ rfl rfl rfl (by repeat (first | exact Upd.head | apply Upd.tail)) wordN_size (bc_size _ _) (bc_size _ _) (bc_one _ _) ?_; clear hS; intro w6 hS))
  refine post_cell_one 2 3 23 rfl rfl rfl rfl (hS.get (.tail .head)) wordN_type rfl wordN_size (bc_size _ _) ?_
  exact ⟨by rw [HE.out]; rfl, hS.frame⟩
theorem rword_any (yb yl : Value) (L : List Nat) (w : World) (hv : RdA [] w yb L) : Calls Tryd.prog 9 #[.agg #[.bool false, yb, yl]] w (WordPost (.str L) w) := by
  by_cases h : L.length ≤ 32
  · cases L with
    | nil => exact rword_none yb yl [] w hv rfl
    | cons y r =>
      by_cases hy : y = 0
      · subst hy; exact rword_zero yb yl r w hv h
      · exact rword_some yb yl (y :: r) w hv (by simp) h (by simp [hy])
  · exact rword_long yb yl L w hv (by omega)
end Go.Proofs.YtjlhnjnoigjjfaaDoor
