/- Pop, the program's and the document's. -/
import Derived.Test.YtlliidfkjlmadaaI9
set_option linter.unusedVariables false
set_option linter.unusedSimpArgs false
namespace Go.Proofs.Ytlliidfkjlmadaa
open Go.RowKit
set_option maxRecDepth 100000
set_option maxHeartbeats 4000000

/-- The last n words, the last one first. -/
def outL (Ws : List (List Nat)) (n : Nat) : List (List Nat) := (List.range n).map fun i => Ws.getD (Ws.length - 1 - i) []
theorem outL_len (Ws : List (List Nat)) (n : Nat) : (outL Ws n).length = n := by simp [outL]
theorem outL_succ (Ws : List (List Nat)) (n : Nat) : outL Ws (n + 1) = outL Ws n ++ [Ws.getD (Ws.length - 1 - n) []] := by simp [outL, List.range_succ]
def popOk (Ws : List (List Nat)) (n : Int) : Bool := decide (0 ≤ n ∧ n ≤ Ws.length)
def popOut (Ws : List (List Nat)) (n : Int) : List (List Nat) := if 0 ≤ n ∧ n ≤ Ws.length then outL Ws n.toNat else []
def popL (Ws : List (List Nat)) (n : Int) : List (List Nat) := if 0 ≤ n ∧ n ≤ Ws.length then Ws.take (Ws.length - n.toNat) else Ws
def PopP (B ty : Nat) (w : World) (b : Nat) (v : Value) (ok : Bool) (out rest : List (List Nat)) (e : Ending) (w' : World) : Prop :=
  ∃ vo v', e = .returned (.tuple #[vo, .bool ok]) ∧ w'.ownsRow w.heap.size 37 32 vo out.length (wcs out) ∧ StkIn B ty w' b v' rest ∧ Turned w w' b v v'
theorem PopP.mk {B ty : Nat} {w w' : World} {b : Nat} {vo v v' : Value} {ok : Bool} {out rest : List (List Nat)} {e : Ending} (h : e = .returned (.tuple #[vo, .bool ok])) (h0 : w'.ownsRow w.heap.size 37 32 vo out.length (wcs out)) (h1 : StkIn B ty w' b v' rest) (h2 : Turned w w' b v v') : PopP B ty w b v ok out rest e w' := ⟨vo, v', h, h0, h1, h2⟩
theorem own_noneW (w : World) (B : Nat) : w.ownsRow B 37 32 (.slice none 0 0) ([] : List (List Nat)).length (wcs []) := ⟨rfl, .inl ⟨rfl, rfl⟩⟩
theorem zs_cells : (wv zs32).toList = List.replicate 32 (.int .u8 0) := by rfl
theorem wcs_zs : ∀ n, wcs (List.replicate n zs32) = List.replicate (n * 32) (.int .u8 0)
  | 0 => rfl
  | n + 1 => by rw [List.replicate_succ, wcs_cons, wcs_zs n, zs_cells, List.replicate_append_replicate]; congr 1; omega
theorem made_zs (n : Nat) : madeCells (Value.agg (wv zs32)).cells (n * 32) = (wcs (List.replicate n zs32)).toArray := by
  rw [wcs_zs]
  have hz : ∀ j, j < 32 → (wv zs32)[j]? = some (.int .u8 0) := fun j hj => by
    rw [← Array.getElem?_toList, zs_cells, List.getElem?_replicate, if_pos hj]
  have e : (Value.agg (wv zs32)).cells.size = 32 := bc_size _ _
  apply Array.ext_getElem?
  intro i
  by_cases hi : i < n * 32
  · have h2 := hz (i % 32) (Nat.mod_lt _ (by decide))
    have e' : (wv zs32).size = 32 := bc_size _ _
    have e2 : (wv zs32)[i % 32]! = .int .u8 0 := by rw [getElem!_def, h2]
    simp [madeCells, hi, Value.cells, e', e2]
  · rw [Array.getElem?_eq_none (by simp [madeCells]; omega), Array.getElem?_eq_none (by simp; omega)]
/-- Words are made, all of them 0. -/
theorem st_makeW {ops : Array Oper} {rest : List Oper} {o : Oper} {a : Act} {bs : List Nat} {w0 w : World} {Q : Exit → Act → World → Prop} {L : List Ent} (n : Nat) (hS : St bs w0 w L) (hgd : o.guard = none) (x y : Operand) (ho : o.op = .makeSlice 27 x y) (hx : a.eval x = .int .i64 (n : Int)) (hy : a.eval y = .int .i64 (n : Int)) (hn : n ≤ 100000)
    (h : ∀ w' b, St bs w0 w' ((b, 37, (wcs (List.replicate n zs32)).toArray) :: L) → Tch [] w w' → wpList Try.prog ops Q rest (a.put o.dst (.slice (some ⟨b, 0, none⟩) n n)) w') : wpList Try.prog ops Q (o :: rest) a w :=
  wpList_plain hgd fun K hK => by
    obtain ⟨i, hi, hz, hs, hb⟩ := info_parts wordW_info
    have hr := run_makeSlice (P := Try.prog) w 27 37 i (.agg (wv zs32)) words_ty hi hz .i64 .i64 n n (by omega) (by omega) (by rw [hs]; simp; omega) (by rw [hb]; omega) (by omega)
    rw [hs, Int.toNat_natCast, made_zs] at hr
    unfold Oper.wp execOp
    simp only [ho, hx, hy, Sem.run_bind, hr, Result.andThen_ok, Sem.run_pure]
    exact hK _ _ (h _ _ (hS.new 37 _) ((Tch.refl _ _).alloc _))
theorem slice_toW (p : Option Addr) (n c k : Nat) (hk : k ≤ n) (hc : n ≤ c) (w : World) : (Instr.sliceAt 27 (.slice p n c) none (some (.int .i64 (k : Int))) none).run Try.prog w = .ok (.slice p k c) w := by
  have hel : Try.prog.elem 27 = 37 := by kernel_rfl
  have ht : Try.prog.underlying 27 = some (.slice (Try.prog.elem 27)) := by rw [hel]; exact words_ty
  have e1 := run_sliceAt_slice (P := Try.prog) (w := w) 27 (.slice p n c) none (some (.int .i64 (k : Int))) none ht
  have e2 := run_slice_h (P := Try.prog) (w := w) 27 p n c ht .i64 (k : Int) (by omega) (by omega)
  rw [e1, e2, hel, sizeOf_one wordN_size]
  cases p <;> simp [Result.andThen, sliced, Addr.add]
theorem x_toW {o : Oper} {a : Act} {w : World} {p : Option Addr} {n c k : Nat} (x hi : Operand) (ho : o.op = .slice 27 x none (some hi) none) (hx : a.eval x = .slice p n c) (hh : a.eval hi = .int .i64 (k : Int)) (hk : k ≤ n) (hc : n ≤ c) : (execOp a.eval o).run Try.prog w = .ok (.value (.slice p k c)) w := by
  unfold execOp
  simp only [ho, hx, hh, Option.map_some, Option.map_none, Sem.run_bind, slice_toW p n c k hk hc, Result.andThen_ok, Sem.run_pure]
theorem own_takeW {w : World} {B n c k : Nat} {p : Option Addr} {Ws : List (List Nat)} (h : w.ownsRow B 37 32 (.slice p n c) n (wcs Ws)) (hk : k ≤ n) : w.ownsRow B 37 32 (.slice p k c) (Ws.take k).length (wcs (Ws.take k)) := by
  have hl := h.1
  rw [wcs_len] at hl
  have hn : (Ws.take k).length = k := by rw [List.length_take]; omega
  rw [hn]
  refine ⟨by rw [wcs_len, hn], ?_⟩
  rcases h.2 with ⟨e1, e2⟩ | ⟨g, cap, cur, e1, hB, hb, hnc, hcm, hsz, htk⟩
  · left
    injection e1 with e3 _ e5
    subst e3 e5
    have : k = 0 := by omega
    subst this
    exact ⟨rfl, rfl⟩
  · right
    injection e1 with e3 _ e5
    subst e3 e5
    refine ⟨g, c, cur, rfl, hB, hb, by omega, hcm, hsz, ?_⟩
    rw [← wcs_take, ← htk, List.take_take, Nat.min_eq_left (by omega)]
/-- A stack whose slice was cut shorter and stored back. -/
theorem StkIn.cut {B ty n c b k : Nat} {p : Option Addr} {w w' : World} {Ws : List (List Nat)} (h : StkIn B ty w b (.slice p n c) Ws) (hn : n = Ws.length) (hk : k ≤ n) (hB : Blk w' b ty #[.slice p k c]) (hO : Only b w w') :
    StkIn B ty w' b (.slice p k c) (Ws.take k) ∧ Turned w w' b (.slice p n c) (.slice p k c) := by
  subst hn
  have he : ∀ j, (Value.slice p k c).ownBlock = some j → (Value.slice p Ws.length c).ownBlock = some j := fun j hj => by cases p <;> exact hj
  exact ⟨⟨hB, own_far (own_takeW h.own hk) hO.tch (fun j hj => by rw [List.mem_singleton]; intro e; rw [e] at hj; exact h.apart (he _ hj)), fun e => h.apart (he _ e), h.base⟩,
    hO.tch.mono (fun x hx => .inl (by rw [List.mem_singleton.1 hx]; exact List.mem_cons_self)), fun j hj => .inl (he _ hj)⟩
theorem rpop_any (B b : Nat) (v : Value) (Ws : List (List Nat)) (n : Int) (w : World) (h : StkIn B 35 w b v Ws) (hl : Ws.length ≤ 1024) (hn : -9223372036854775808 ≤ n ∧ n ≤ 9223372036854775807) :
    Calls Try.prog 13 #[.pointer (some ⟨b, 0, none⟩), .int .i64 n] w (PopP B 35 w b v (popOk Ws n) (popOut Ws n) (popL Ws n)) := by
  obtain ⟨p, c, rfl, hc⟩ := h.slice
  have HH := Lib.hid h
  have HB := Lib.hid (fun w' (hT : Tch [] w w') => hT.blk h.blk (by simp))
  have HN := Lib.hid hn
  clear hn
  by_cases h1 : n < 0
  · rw [show popOk Ws n = false from decide_eq_false (by omega), show popOut Ws n = [] from if_neg (by omega), show popL Ws n = Ws from if_neg (by omega)]
    clear h
    go_enter Try.func13, Try.ntmps13
    go_upto_region 1 with (fail)
    try simp only [Act.put, List.setIfInBounds_toArray, List.set_cons_zero, List.set_cons_succ]
    refine k_seq (C := fun w' => Tch [] w w') (Tch.refl _ _) ?_
    refine k_val (v := .int .i64 n) rfl _ (.inl rfl) rfl ?_; try simp only [Act.put, List.setIfInBounds_toArray, List.set_cons_zero, List.set_cons_succ]
    refine k_lss (m := n) (n := 0) (t := true) rfl _ _ _ rfl rfl rfl (decide_eq_true (by omega)) ?_; try simp only [Act.put, List.setIfInBounds_toArray, List.set_cons_zero, List.set_cons_succ]
    refine k_val (v := .bool true) rfl _ (.inl rfl) rfl ?_; try simp only [Act.put, List.setIfInBounds_toArray, List.set_cons_zero, List.set_cons_succ]
    refine k_skip rfl rfl rfl rfl rfl ?_; try simp only [Act.put, List.setIfInBounds_toArray, List.set_cons_zero, List.set_cons_succ]
    refine k_skip rfl rfl rfl rfl rfl ?_; try simp only [Act.put, List.setIfInBounds_toArray, List.set_cons_zero, List.set_cons_succ]
    refine k_skip rfl rfl rfl rfl rfl ?_; try simp only [Act.put, List.setIfInBounds_toArray, List.set_cons_zero, List.set_cons_succ]
    refine k_skip rfl rfl rfl rfl rfl ?_; try simp only [Act.put, List.setIfInBounds_toArray, List.set_cons_zero, List.set_cons_succ]
    refine k_skip rfl rfl rfl rfl rfl ?_; try simp only [Act.put, List.setIfInBounds_toArray, List.set_cons_zero, List.set_cons_succ]
    refine k_skip rfl rfl rfl rfl rfl ?_; try simp only [Act.put, List.setIfInBounds_toArray, List.set_cons_zero, List.set_cons_succ]
    refine k_skip rfl rfl rfl rfl rfl ?_; try simp only [Act.put, List.setIfInBounds_toArray, List.set_cons_zero, List.set_cons_succ]
    refine k_pickT (t := true) rfl _ _ _ rfl rfl rfl ?_; try simp only [Act.put, List.setIfInBounds_toArray, List.set_cons_zero, List.set_cons_succ]
    refine k_end ?_
    intro w2 hT
    go_wp2
    go_ret2
    exact PopP.mk rfl (own_noneW _ _) (HH.out.call hT) (Turned.of_tch hT _ _)
  by_cases h2 : (Ws.length : Int) < n
  · rw [show popOk Ws n = false from decide_eq_false (by omega), show popOut Ws n = [] from if_neg (by omega), show popL Ws n = Ws from if_neg (by omega)]
    clear h
    go_enter Try.func13, Try.ntmps13
    go_upto_region 1 with (fail)
    try simp only [Act.put, List.setIfInBounds_toArray, List.set_cons_zero, List.set_cons_succ]
    refine k_seq (C := fun w' => Tch [] w w') (Tch.refl _ _) ?_
    refine k_val (v := .int .i64 n) rfl _ (.inl rfl) rfl ?_; try simp only [Act.put, List.setIfInBounds_toArray, List.set_cons_zero, List.set_cons_succ]
    refine k_lss (m := n) (n := 0) (t := false) rfl _ _ _ rfl rfl rfl (decide_eq_false (by omega)) ?_; try simp only [Act.put, List.setIfInBounds_toArray, List.set_cons_zero, List.set_cons_succ]
    refine k_val (v := .bool false) rfl _ (.inl rfl) rfl ?_; try simp only [Act.put, List.setIfInBounds_toArray, List.set_cons_zero, List.set_cons_succ]
    refine k_val (v := .int .i64 n) rfl _ (.inl rfl) rfl ?_; try simp only [Act.put, List.setIfInBounds_toArray, List.set_cons_zero, List.set_cons_succ]
    refine k_val (v := .pointer (some ⟨b, 0, none⟩)) rfl _ (.inl rfl) rfl ?_; try simp only [Act.put, List.setIfInBounds_toArray, List.set_cons_zero, List.set_cons_succ]
    refine k_nilI ⟨b, 0, none⟩ rfl _ rfl rfl ?_; try simp only [Act.put, List.setIfInBounds_toArray, List.set_cons_zero, List.set_cons_succ]
    refine k_faI rfl rfl rfl (fa_stkR b) ?_; try simp only [Act.put, List.setIfInBounds_toArray, List.set_cons_zero, List.set_cons_succ]
    refine k_cellC (b := b) (j := 0) (v := .slice p Ws.length c) rfl _ _ rfl rfl (fun w' h => (HB.out w' h).cell rfl) words_aggI ?_; try simp only [Act.put, List.setIfInBounds_toArray, List.set_cons_zero, List.set_cons_succ]
    refine k_lenW (p := p) (n := Ws.length) (c := c) rfl _ rfl rfl ?_; try simp only [Act.put, List.setIfInBounds_toArray, List.set_cons_zero, List.set_cons_succ]
    refine k_gtr (m := n) (n := (Ws.length : Int)) (t := true) rfl _ _ _ rfl rfl rfl (decide_eq_true (by omega)) ?_; try simp only [Act.put, List.setIfInBounds_toArray, List.set_cons_zero, List.set_cons_succ]
    refine k_pickF (t := true) rfl _ _ _ rfl rfl rfl ?_; try simp only [Act.put, List.setIfInBounds_toArray, List.set_cons_zero, List.set_cons_succ]
    refine k_end ?_
    intro w2 hT
    go_wp2
    go_ret2
    exact PopP.mk rfl (own_noneW _ _) (HH.out.call hT) (Turned.of_tch hT _ _)
  obtain ⟨n, rfl⟩ : ∃ m : Nat, n = m := ⟨n.toNat, by omega⟩
  rw [show popOk Ws (n : Int) = true from decide_eq_true (by omega), show popOut Ws (n : Int) = outL Ws n from by unfold popOut; rw [if_pos (by omega), Int.toNat_natCast], show popL Ws (n : Int) = Ws.take (Ws.length - n) from by unfold popL; rw [if_pos (by omega), Int.toNat_natCast]]
  have hnl : n ≤ Ws.length := by omega
  go_enter Try.func13, Try.ntmps13
  go_upto_region 1 with (fail)
  try simp only [Act.put, List.setIfInBounds_toArray, List.set_cons_zero, List.set_cons_succ]
  refine k_seq (C := fun w' => Tch [] w w') (Tch.refl _ _) ?_
  refine k_val (v := .int .i64 (n : Int)) rfl _ (.inl rfl) rfl ?_; try simp only [Act.put, List.setIfInBounds_toArray, List.set_cons_zero, List.set_cons_succ]
  refine k_lss (m := (n : Int)) (n := 0) (t := false) rfl _ _ _ rfl rfl rfl (decide_eq_false (by omega)) ?_; try simp only [Act.put, List.setIfInBounds_toArray, List.set_cons_zero, List.set_cons_succ]
  refine k_val (v := .bool false) rfl _ (.inl rfl) rfl ?_; try simp only [Act.put, List.setIfInBounds_toArray, List.set_cons_zero, List.set_cons_succ]
  refine k_val (v := .int .i64 (n : Int)) rfl _ (.inl rfl) rfl ?_; try simp only [Act.put, List.setIfInBounds_toArray, List.set_cons_zero, List.set_cons_succ]
  refine k_val (v := .pointer (some ⟨b, 0, none⟩)) rfl _ (.inl rfl) rfl ?_; try simp only [Act.put, List.setIfInBounds_toArray, List.set_cons_zero, List.set_cons_succ]
  refine k_nilI ⟨b, 0, none⟩ rfl _ rfl rfl ?_; try simp only [Act.put, List.setIfInBounds_toArray, List.set_cons_zero, List.set_cons_succ]
  refine k_faI rfl rfl rfl (fa_stkR b) ?_; try simp only [Act.put, List.setIfInBounds_toArray, List.set_cons_zero, List.set_cons_succ]
  refine k_cellC (b := b) (j := 0) (v := .slice p Ws.length c) rfl _ _ rfl rfl (fun w' h => (HB.out w' h).cell rfl) words_aggI ?_; try simp only [Act.put, List.setIfInBounds_toArray, List.set_cons_zero, List.set_cons_succ]
  refine k_lenW (p := p) (n := Ws.length) (c := c) rfl _ rfl rfl ?_; try simp only [Act.put, List.setIfInBounds_toArray, List.set_cons_zero, List.set_cons_succ]
  refine k_gtr (m := (n : Int)) (n := (Ws.length : Int)) (t := false) rfl _ _ _ rfl rfl rfl (decide_eq_false (by omega)) ?_; try simp only [Act.put, List.setIfInBounds_toArray, List.set_cons_zero, List.set_cons_succ]
  refine k_pickF (t := false) rfl _ _ _ rfl rfl rfl ?_; try simp only [Act.put, List.setIfInBounds_toArray, List.set_cons_zero, List.set_cons_succ]
  refine k_end ?_
  intro w2 hT2
  clear h1 h2
  go_upto_region 5 with (fail)
  go_loopw [6, 7] (fun s i wr => ∃ k : Nat, i = .int .i64 (k : Int) ∧ k ≤ n ∧ wr.ownsRow w.heap.size 37 32 s (outL Ws k).length (wcs (outL Ws k)) ∧ Tch [] w wr) (fun _ i _ => n - (intOf i).toNat)
  case atStart => exact ⟨0, rfl, Nat.zero_le _, own_noneW _ _, hT2⟩
  case round =>
    obtain ⟨k, rfl, hk, hown, hT⟩ := hrel
    by_cases hlt : k < n
    · have hlt' : (k : Int) < (n : Int) := by omega
      obtain ⟨g, rfl, _⟩ := row_blk h.own (by omega)
      go_upto_region 7 with (fail)
      have hkk : Ws.length - 1 - k < Ws.length := by omega
      have hW := getD_of hkk
      have hsc := outL_succ Ws k
      obtain ⟨W, hWd⟩ : ∃ W, W = Ws.getD (Ws.length - 1 - k) [] := ⟨_, rfl⟩
      rw [← hWd] at hW hsc
      have HSC := Lib.hid hsc
      clear hWd hsc
      have hr := h.call hT
      have hfar : ∀ x ∈ fpr b (.slice (some ⟨g, 0, none⟩) Ws.length c), x ∉ u6.ownBlock.toList := fun x hx hm => by
        have h1 := (h.lt hx).2
        have h2 := (hown.lt x (by simpa using hm)).1
        omega
      have HR := Lib.hid (fun w' (hT' : Tch u6.ownBlock.toList wr w') => hr.far hT' hfar)
      have HOut := Lib.hid hown
      have HTr := Lib.hid hT
      have hol := outL_len Ws k
      have hB0 := hT.size
      clear hr hfar hown hT
      try simp only [Act.put, List.setIfInBounds_toArray, List.set_cons_zero, List.set_cons_succ]
      refine wp_region_held_drew (S := fun w' => Tch u6.ownBlock.toList wr w') (by kernel_rfl) ((Tch.refl _ _).drew) (fun hC => ?_)
      have hD0 : Tch [] wr wr.drew := (Tch.refl [] wr).drew
      generalize World.drew wr = u0 at hC hD0 ⊢
      refine held_in (v := (u6)) 0 rfl (by kernel_rfl) (by kernel_rfl) (by kernel_rfl) (fun _ _ _ h => h) hC rfl (fun w' hw' => x_val _ (.inl rfl) rfl) ?_
      try simp only [Act.put, List.setIfInBounds_toArray, List.set_cons_zero, List.set_cons_succ]
      refine held_in (v := (.pointer (some ⟨b, 0, none⟩))) 1 rfl (by kernel_rfl) (by kernel_rfl) (by kernel_rfl) (fun _ _ _ h => h) hC rfl (fun w' hw' => x_val _ (.inl rfl) rfl) ?_
      try simp only [Act.put, List.setIfInBounds_toArray, List.set_cons_zero, List.set_cons_succ]
      refine held_in (v := (.pointer (some ⟨b, 0, none⟩))) 2 rfl (by kernel_rfl) (by kernel_rfl) (by kernel_rfl) (fun _ _ _ h => h) hC rfl (fun w' hw' => x_nilck _ rfl rfl) ?_
      try simp only [Act.put, List.setIfInBounds_toArray, List.set_cons_zero, List.set_cons_succ]
      refine held_in (v := (.pointer (some ⟨b, 0, none⟩))) 3 rfl (by kernel_rfl) (by kernel_rfl) (by kernel_rfl) (fun _ _ _ h => h) hC rfl (fun w' hw' => x_fa _ _ _ rfl rfl (fa_stkR _ _)) ?_
      try simp only [Act.put, List.setIfInBounds_toArray, List.set_cons_zero, List.set_cons_succ]
      refine held_in (v := (.slice (some ⟨g, 0, none⟩) Ws.length c)) 4 rfl (by kernel_rfl) (by kernel_rfl) (by kernel_rfl) (fun _ _ _ h => h) hC rfl (fun w' hw' => x_cell _ _ rfl rfl ((HR.out w' hw').blk.cell rfl) words_aggI) ?_
      try simp only [Act.put, List.setIfInBounds_toArray, List.set_cons_zero, List.set_cons_succ]
      refine held_in (v := (.pointer (some ⟨b, 0, none⟩))) 5 rfl (by kernel_rfl) (by kernel_rfl) (by kernel_rfl) (fun _ _ _ h => h) hC rfl (fun w' hw' => x_val _ (.inl rfl) rfl) ?_
      try simp only [Act.put, List.setIfInBounds_toArray, List.set_cons_zero, List.set_cons_succ]
      refine held_in (v := (.pointer (some ⟨b, 0, none⟩))) 6 rfl (by kernel_rfl) (by kernel_rfl) (by kernel_rfl) (fun _ _ _ h => h) hC rfl (fun w' hw' => x_nilck _ rfl rfl) ?_
      try simp only [Act.put, List.setIfInBounds_toArray, List.set_cons_zero, List.set_cons_succ]
      refine held_in (v := (.pointer (some ⟨b, 0, none⟩))) 7 rfl (by kernel_rfl) (by kernel_rfl) (by kernel_rfl) (fun _ _ _ h => h) hC rfl (fun w' hw' => x_fa _ _ _ rfl rfl (fa_stkR _ _)) ?_
      try simp only [Act.put, List.setIfInBounds_toArray, List.set_cons_zero, List.set_cons_succ]
      refine held_in (v := (.slice (some ⟨g, 0, none⟩) Ws.length c)) 8 rfl (by kernel_rfl) (by kernel_rfl) (by kernel_rfl) (fun _ _ _ h => h) hC rfl (fun w' hw' => x_cell _ _ rfl rfl ((HR.out w' hw').blk.cell rfl) words_aggI) ?_
      try simp only [Act.put, List.setIfInBounds_toArray, List.set_cons_zero, List.set_cons_succ]
      refine held_in (v := (.int .i64 (Ws.length : Int))) 9 rfl (by kernel_rfl) (by kernel_rfl) (by kernel_rfl) (fun _ _ _ h => h) hC rfl (fun w' hw' => x_lenW _ rfl rfl) ?_
      try simp only [Act.put, List.setIfInBounds_toArray, List.set_cons_zero, List.set_cons_succ]
      refine held_in (v := (.int .i64 ((Ws.length - 1 : Nat) : Int))) 10 rfl (by kernel_rfl) (by kernel_rfl) (by kernel_rfl) (fun _ _ _ h => h) hC rfl (fun w' hw' => x_subI _ _ _ _ rfl rfl rfl (by rw [IntKind.wrap_i64]; omega)) ?_
      try simp only [Act.put, List.setIfInBounds_toArray, List.set_cons_zero, List.set_cons_succ]
      refine held_in (v := (.int .i64 (k : Int))) 11 rfl (by kernel_rfl) (by kernel_rfl) (by kernel_rfl) (fun _ _ _ h => h) hC rfl (fun w' hw' => x_val _ (.inl rfl) rfl) ?_
      try simp only [Act.put, List.setIfInBounds_toArray, List.set_cons_zero, List.set_cons_succ]
      refine held_in (v := (.int .i64 ((Ws.length - 1 - k : Nat) : Int))) 12 rfl (by kernel_rfl) (by kernel_rfl) (by kernel_rfl) (fun _ _ _ h => h) hC rfl (fun w' hw' => x_subI _ _ _ _ rfl rfl rfl (by rw [IntKind.wrap_i64]; omega)) ?_
      try simp only [Act.put, List.setIfInBounds_toArray, List.set_cons_zero, List.set_cons_succ]
      refine held_in (v := (.pointer (some ⟨g, (Ws.length - 1 - k) * 32, none⟩))) 13 rfl (by kernel_rfl) (by kernel_rfl) (by kernel_rfl) (fun _ _ _ h => h) hC rfl (fun w' hw' => x_idxW _ _ rfl rfl rfl hkk) ?_
      try simp only [Act.put, List.setIfInBounds_toArray, List.set_cons_zero, List.set_cons_succ]
      refine held_in (v := (.agg (wv W))) 14 rfl (by kernel_rfl) (by kernel_rfl) (by kernel_rfl) (fun _ _ _ h => h) hC rfl (fun w' hw' => x_ldW _ rfl rfl (HR.out w' hw').own hkk hW) ?_
      try simp only [Act.put, List.setIfInBounds_toArray, List.set_cons_zero, List.set_cons_succ]
      refine held_one 15 (by kernel_rfl) ?_
      refine held_bsW (W := W) rfl rfl rfl (by rfl) ?_
      intro u1 g1 hT1 hG1 _
      have hC1 := hC.trans (hT1.mono (cs := u6.ownBlock.toList) (by simp))
      refine ⟨hC1, ?_⟩
      try simp only [Act.put, List.setIfInBounds_toArray, List.set_cons_zero, List.set_cons_succ]
      refine held_one 16 (by kernel_rfl) ?_
      refine held_appW (t := 37) (g := g1) (W := W) rfl rfl rfl (by rfl) (by rfl) hG1 (own_far HOut.out (hD0.trans hT1) (by simp)) (Nat.le_trans hB0 (Nat.le_trans hD0.size hT1.size)) (by omega) ?_
      intro v2 u2 hown2 hT2' hf2 hv2
      have hC2 := hC1.trans hT2'
      refine ⟨hC2, ?_⟩
      try simp only [Act.put, List.setIfInBounds_toArray, List.set_cons_zero, List.set_cons_succ]
      refine held_in (v := (v2)) 17 rfl (by kernel_rfl) (by kernel_rfl) (by kernel_rfl) (fun _ _ _ h => h) hC2 rfl (fun w' hw' => x_val _ (.inr rfl) rfl) ?_
      try simp only [Act.put, List.setIfInBounds_toArray, List.set_cons_zero, List.set_cons_succ]
      have hTn : Tch [] w u2 := Tch.fresh (HTr.out.trans (hD0.trans hT1)) hT2' (fun x hx => (HOut.out.lt x (by simpa using hx)).1)
      have HF := Lib.hid (show u2.ownsRow w.heap.size 37 32 v2 (outL Ws (k + 1)).length (wcs (outL Ws (k + 1))) by rw [HSC.out]; exact hown2)
      clear hown2 hT2' hf2 hv2 hC2 hC1 hC hG1 hT1
      refine wpAnyH_done (by kernel_rfl) ?_ _
      go_wp2
      go_roundw
      case rel => exact ⟨k + 1, by go_num, hlt, HF.out, hTn⟩
      case measure => simp [intOf]; omega
    · obtain rfl : k = n := by omega
      have hr := h.call hT
      have HBr := Lib.hid (fun w' (hT' : Tch [] wr w') => hT'.blk hr.blk (by simp))
      have HR := Lib.hid hr
      have HOut := Lib.hid hown
      have HTr := Lib.hid hT
      have hu : ∃ p c, u6 = .slice p k c := by
        have := hown.2
        rw [outL_len] at this
        rcases this with ⟨e1, e2⟩ | ⟨g, cap, cur, e1, _⟩
        · exact ⟨none, 0, by rw [e1, e2]⟩
        · exact ⟨_, _, e1⟩
      clear hr hown hT
      go_upto_region 8 with (fail)
      try simp only [Act.put, List.setIfInBounds_toArray, List.set_cons_zero, List.set_cons_succ]
      refine k_region_head (C := fun w' => Tch [] wr w') 13 (by kernel_rfl) (by kernel_rfl) (Tch.refl _ _).drew ?_
      try simp only [List.take_succ_cons, List.take_zero, List.drop_succ_cons, List.drop_zero]
      refine k_val (v := .pointer (some ⟨b, 0, none⟩)) rfl _ (.inl rfl) rfl ?_; try simp only [Act.put, List.setIfInBounds_toArray, List.set_cons_zero, List.set_cons_succ]
      refine k_val (v := .pointer (some ⟨b, 0, none⟩)) rfl _ (.inl rfl) rfl ?_; try simp only [Act.put, List.setIfInBounds_toArray, List.set_cons_zero, List.set_cons_succ]
      refine k_nilI ⟨b, 0, none⟩ rfl _ rfl rfl ?_; try simp only [Act.put, List.setIfInBounds_toArray, List.set_cons_zero, List.set_cons_succ]
      refine k_faI rfl rfl rfl (fa_stkR b) ?_; try simp only [Act.put, List.setIfInBounds_toArray, List.set_cons_zero, List.set_cons_succ]
      refine k_cellC (b := b) (j := 0) (v := .slice p Ws.length c) rfl _ _ rfl rfl (fun w' h => (HBr.out w' h).cell rfl) words_aggI ?_; try simp only [Act.put, List.setIfInBounds_toArray, List.set_cons_zero, List.set_cons_succ]
      refine k_val (v := .pointer (some ⟨b, 0, none⟩)) rfl _ (.inl rfl) rfl ?_; try simp only [Act.put, List.setIfInBounds_toArray, List.set_cons_zero, List.set_cons_succ]
      refine k_nilI ⟨b, 0, none⟩ rfl _ rfl rfl ?_; try simp only [Act.put, List.setIfInBounds_toArray, List.set_cons_zero, List.set_cons_succ]
      refine k_faI rfl rfl rfl (fa_stkR b) ?_; try simp only [Act.put, List.setIfInBounds_toArray, List.set_cons_zero, List.set_cons_succ]
      refine k_cellC (b := b) (j := 0) (v := .slice p Ws.length c) rfl _ _ rfl rfl (fun w' h => (HBr.out w' h).cell rfl) words_aggI ?_; try simp only [Act.put, List.setIfInBounds_toArray, List.set_cons_zero, List.set_cons_succ]
      refine k_lenW (p := p) (n := Ws.length) (c := c) rfl _ rfl rfl ?_; try simp only [Act.put, List.setIfInBounds_toArray, List.set_cons_zero, List.set_cons_succ]
      refine k_val (v := .int .i64 (k : Int)) rfl _ (.inl rfl) rfl ?_; try simp only [Act.put, List.setIfInBounds_toArray, List.set_cons_zero, List.set_cons_succ]
      refine k_sub (m := (Ws.length : Int)) (n := (k : Int)) (s := ((Ws.length - k : Nat) : Int)) rfl _ _ _ _ rfl rfl rfl (by rw [IntKind.wrap_i64]; omega) ?_; try simp only [Act.put, List.setIfInBounds_toArray, List.set_cons_zero, List.set_cons_succ]
      refine k_in (v := .slice p (Ws.length - k) c) rfl (fun w' h => x_toW _ _ rfl rfl rfl (by omega) hc) ?_; try simp only [Act.put, List.setIfInBounds_toArray, List.set_cons_zero, List.set_cons_succ]
      refine k_end ?_
      intro w8 hT8
      have h8 := HR.out.call hT8
      have H8 := Lib.hid h8
      go_wp2_with (first
        | (refine st_storeV (v := .slice p Ws.length c) (v' := .slice p (Ws.length - k) c) h8.blk rfl _ _ rfl rfl rfl rfl words_sizeI ?_; intro w9 hB9 hO9))
      go_ret2
      obtain ⟨r1, r2⟩ := StkIn.cut H8.out rfl (by omega) hB9 hO9
      exact PopP.mk rfl (own_far (own_far HOut.out hT8 (by simp)) hO9.tch (fun j hj => by
        rw [List.mem_singleton]; intro e; rw [e] at hj
        have h1 := (HOut.out.lt b hj).1
        have h2 := HH.out.blk.lt
        omega)) r1 ((Turned.of_tch (HTr.out.trans hT8) _ _).trans r2)
theorem pop_any (B b : Nat) (v : Value) (Ws : List (List Nat)) (n : Int) (w : World) (h : StkIn B 29 w b v Ws) (hl : Ws.length ≤ 1024) (hn : -9223372036854775808 ≤ n ∧ n ≤ 9223372036854775807) :
    Calls Try.prog 12 #[.pointer (some ⟨b, 0, none⟩), .int .i64 n] w (PopP B 29 w b v (popOk Ws n) (popOut Ws n) (popL Ws n)) := by
  obtain ⟨p, c, rfl, hc⟩ := h.slice
  have HH := Lib.hid h
  have HB := Lib.hid (fun w' (hT : Tch [] w w') => hT.blk h.blk (by simp))
  have HN := Lib.hid hn
  clear hn
  by_cases h1 : n < 0
  · rw [show popOk Ws n = false from decide_eq_false (by omega), show popOut Ws n = [] from if_neg (by omega), show popL Ws n = Ws from if_neg (by omega)]
    clear h
    go_enter Try.func12, Try.ntmps12
    go_upto_region 1 with (fail)
    try simp only [Act.put, List.setIfInBounds_toArray, List.set_cons_zero, List.set_cons_succ]
    refine k_seq (C := fun w' => Tch [] w w') (Tch.refl _ _) ?_
    refine k_val (v := .pointer (some ⟨b, 0, none⟩)) rfl _ (.inl rfl) rfl ?_; try simp only [Act.put, List.setIfInBounds_toArray, List.set_cons_zero, List.set_cons_succ]
    refine k_nilI ⟨b, 0, none⟩ rfl _ rfl rfl ?_; try simp only [Act.put, List.setIfInBounds_toArray, List.set_cons_zero, List.set_cons_succ]
    refine k_faI rfl rfl rfl (fa_stkP b) ?_; try simp only [Act.put, List.setIfInBounds_toArray, List.set_cons_zero, List.set_cons_succ]
    refine k_cellC (b := b) (j := 0) (v := .slice p Ws.length c) rfl _ _ rfl rfl (fun w' h => (HB.out w' h).cell rfl) words_aggI ?_; try simp only [Act.put, List.setIfInBounds_toArray, List.set_cons_zero, List.set_cons_succ]
    refine k_lenW (p := p) (n := Ws.length) (c := c) rfl _ rfl rfl ?_; try simp only [Act.put, List.setIfInBounds_toArray, List.set_cons_zero, List.set_cons_succ]
    refine k_val (v := .int .i64 n) rfl _ (.inl rfl) rfl ?_; try simp only [Act.put, List.setIfInBounds_toArray, List.set_cons_zero, List.set_cons_succ]
    refine k_sub (m := (Ws.length : Int)) (n := n) (s := IntKind.i64.wrap ((Ws.length : Int) - n)) rfl _ _ _ _ rfl rfl rfl rfl ?_; try simp only [Act.put, List.setIfInBounds_toArray, List.set_cons_zero, List.set_cons_succ]
    refine k_val (v := .int .i64 (IntKind.i64.wrap ((Ws.length : Int) - n))) rfl _ (.inr rfl) rfl ?_; try simp only [Act.put, List.setIfInBounds_toArray, List.set_cons_zero, List.set_cons_succ]
    refine k_end ?_
    intro w2 hT2
    go_upto_region 2 with (fail)
    try simp only [Act.put, List.setIfInBounds_toArray, List.set_cons_zero, List.set_cons_succ]
    refine k_seq (C := fun w' => Tch [] w2 w') (Tch.refl _ _) ?_
    refine k_val (v := .int .i64 n) rfl _ (.inl rfl) rfl ?_; try simp only [Act.put, List.setIfInBounds_toArray, List.set_cons_zero, List.set_cons_succ]
    refine k_lss (m := n) (n := 0) (t := true) rfl _ _ _ rfl rfl rfl (decide_eq_true (by first | omega | (rw [IntKind.wrap_i64]; omega))) ?_; try simp only [Act.put, List.setIfInBounds_toArray, List.set_cons_zero, List.set_cons_succ]
    refine k_val (v := .bool true) rfl _ (.inl rfl) rfl ?_; try simp only [Act.put, List.setIfInBounds_toArray, List.set_cons_zero, List.set_cons_succ]
    refine k_skip rfl rfl rfl rfl rfl ?_; try simp only [Act.put, List.setIfInBounds_toArray, List.set_cons_zero, List.set_cons_succ]
    refine k_skip rfl rfl rfl rfl rfl ?_; try simp only [Act.put, List.setIfInBounds_toArray, List.set_cons_zero, List.set_cons_succ]
    refine k_pickT (t := true) rfl _ _ _ rfl rfl rfl ?_; try simp only [Act.put, List.setIfInBounds_toArray, List.set_cons_zero, List.set_cons_succ]
    refine k_end ?_
    intro w3 hT3
    have hT := hT2.trans hT3
    go_wp2
    go_ret2
    exact PopP.mk rfl (own_noneW _ _) (HH.out.call hT) (Turned.of_tch hT _ _)
  by_cases h2 : (Ws.length : Int) < n
  · have hn2 := HN.out.2
    rw [show popOk Ws n = false from decide_eq_false (by omega), show popOut Ws n = [] from if_neg (by omega), show popL Ws n = Ws from if_neg (by omega)]
    clear h
    go_enter Try.func12, Try.ntmps12
    go_upto_region 1 with (fail)
    try simp only [Act.put, List.setIfInBounds_toArray, List.set_cons_zero, List.set_cons_succ]
    refine k_seq (C := fun w' => Tch [] w w') (Tch.refl _ _) ?_
    refine k_val (v := .pointer (some ⟨b, 0, none⟩)) rfl _ (.inl rfl) rfl ?_; try simp only [Act.put, List.setIfInBounds_toArray, List.set_cons_zero, List.set_cons_succ]
    refine k_nilI ⟨b, 0, none⟩ rfl _ rfl rfl ?_; try simp only [Act.put, List.setIfInBounds_toArray, List.set_cons_zero, List.set_cons_succ]
    refine k_faI rfl rfl rfl (fa_stkP b) ?_; try simp only [Act.put, List.setIfInBounds_toArray, List.set_cons_zero, List.set_cons_succ]
    refine k_cellC (b := b) (j := 0) (v := .slice p Ws.length c) rfl _ _ rfl rfl (fun w' h => (HB.out w' h).cell rfl) words_aggI ?_; try simp only [Act.put, List.setIfInBounds_toArray, List.set_cons_zero, List.set_cons_succ]
    refine k_lenW (p := p) (n := Ws.length) (c := c) rfl _ rfl rfl ?_; try simp only [Act.put, List.setIfInBounds_toArray, List.set_cons_zero, List.set_cons_succ]
    refine k_val (v := .int .i64 n) rfl _ (.inl rfl) rfl ?_; try simp only [Act.put, List.setIfInBounds_toArray, List.set_cons_zero, List.set_cons_succ]
    refine k_sub (m := (Ws.length : Int)) (n := n) (s := IntKind.i64.wrap ((Ws.length : Int) - n)) rfl _ _ _ _ rfl rfl rfl rfl ?_; try simp only [Act.put, List.setIfInBounds_toArray, List.set_cons_zero, List.set_cons_succ]
    refine k_val (v := .int .i64 (IntKind.i64.wrap ((Ws.length : Int) - n))) rfl _ (.inr rfl) rfl ?_; try simp only [Act.put, List.setIfInBounds_toArray, List.set_cons_zero, List.set_cons_succ]
    refine k_end ?_
    intro w2 hT2
    go_upto_region 2 with (fail)
    try simp only [Act.put, List.setIfInBounds_toArray, List.set_cons_zero, List.set_cons_succ]
    refine k_seq (C := fun w' => Tch [] w2 w') (Tch.refl _ _) ?_
    refine k_val (v := .int .i64 n) rfl _ (.inl rfl) rfl ?_; try simp only [Act.put, List.setIfInBounds_toArray, List.set_cons_zero, List.set_cons_succ]
    refine k_lss (m := n) (n := 0) (t := false) rfl _ _ _ rfl rfl rfl (decide_eq_false (by first | omega | (rw [IntKind.wrap_i64]; omega))) ?_; try simp only [Act.put, List.setIfInBounds_toArray, List.set_cons_zero, List.set_cons_succ]
    refine k_val (v := .bool false) rfl _ (.inl rfl) rfl ?_; try simp only [Act.put, List.setIfInBounds_toArray, List.set_cons_zero, List.set_cons_succ]
    refine k_val (v := .int .i64 (IntKind.i64.wrap ((Ws.length : Int) - n))) rfl _ (.inl rfl) rfl ?_; try simp only [Act.put, List.setIfInBounds_toArray, List.set_cons_zero, List.set_cons_succ]
    refine k_lss (m := (IntKind.i64.wrap ((Ws.length : Int) - n))) (n := 0) (t := true) rfl _ _ _ rfl rfl rfl (decide_eq_true (by first | omega | (rw [IntKind.wrap_i64]; omega))) ?_; try simp only [Act.put, List.setIfInBounds_toArray, List.set_cons_zero, List.set_cons_succ]
    refine k_pickF (t := true) rfl _ _ _ rfl rfl rfl ?_; try simp only [Act.put, List.setIfInBounds_toArray, List.set_cons_zero, List.set_cons_succ]
    refine k_end ?_
    intro w3 hT3
    have hT := hT2.trans hT3
    go_wp2
    go_ret2
    exact PopP.mk rfl (own_noneW _ _) (HH.out.call hT) (Turned.of_tch hT _ _)
  obtain ⟨n, rfl⟩ : ∃ m : Nat, n = m := ⟨n.toNat, by omega⟩
  rw [show popOk Ws (n : Int) = true from decide_eq_true (by omega), show popOut Ws (n : Int) = outL Ws n from by unfold popOut; rw [if_pos (by omega), Int.toNat_natCast], show popL Ws (n : Int) = Ws.take (Ws.length - n) from by unfold popL; rw [if_pos (by omega), Int.toNat_natCast]]
  have hnl : n ≤ Ws.length := by omega
  go_enter Try.func12, Try.ntmps12
  go_upto_region 1 with (fail)
  try simp only [Act.put, List.setIfInBounds_toArray, List.set_cons_zero, List.set_cons_succ]
  refine k_seq (C := fun w' => Tch [] w w') (Tch.refl _ _) ?_
  refine k_val (v := .pointer (some ⟨b, 0, none⟩)) rfl _ (.inl rfl) rfl ?_; try simp only [Act.put, List.setIfInBounds_toArray, List.set_cons_zero, List.set_cons_succ]
  refine k_nilI ⟨b, 0, none⟩ rfl _ rfl rfl ?_; try simp only [Act.put, List.setIfInBounds_toArray, List.set_cons_zero, List.set_cons_succ]
  refine k_faI rfl rfl rfl (fa_stkP b) ?_; try simp only [Act.put, List.setIfInBounds_toArray, List.set_cons_zero, List.set_cons_succ]
  refine k_cellC (b := b) (j := 0) (v := .slice p Ws.length c) rfl _ _ rfl rfl (fun w' h => (HB.out w' h).cell rfl) words_aggI ?_; try simp only [Act.put, List.setIfInBounds_toArray, List.set_cons_zero, List.set_cons_succ]
  refine k_lenW (p := p) (n := Ws.length) (c := c) rfl _ rfl rfl ?_; try simp only [Act.put, List.setIfInBounds_toArray, List.set_cons_zero, List.set_cons_succ]
  refine k_val (v := .int .i64 (n : Int)) rfl _ (.inl rfl) rfl ?_; try simp only [Act.put, List.setIfInBounds_toArray, List.set_cons_zero, List.set_cons_succ]
  refine k_sub (m := (Ws.length : Int)) (n := (n : Int)) (s := ((Ws.length - n : Nat) : Int)) rfl _ _ _ _ rfl rfl rfl (by rw [IntKind.wrap_i64]; omega) ?_; try simp only [Act.put, List.setIfInBounds_toArray, List.set_cons_zero, List.set_cons_succ]
  refine k_val (v := .int .i64 (((Ws.length - n : Nat) : Int))) rfl _ (.inr rfl) rfl ?_; try simp only [Act.put, List.setIfInBounds_toArray, List.set_cons_zero, List.set_cons_succ]
  refine k_end ?_
  intro w2 hT2
  go_upto_region 2 with (fail)
  try simp only [Act.put, List.setIfInBounds_toArray, List.set_cons_zero, List.set_cons_succ]
  refine k_seq (C := fun w' => Tch [] w2 w') (Tch.refl _ _) ?_
  refine k_val (v := .int .i64 (n : Int)) rfl _ (.inl rfl) rfl ?_; try simp only [Act.put, List.setIfInBounds_toArray, List.set_cons_zero, List.set_cons_succ]
  refine k_lss (m := (n : Int)) (n := 0) (t := false) rfl _ _ _ rfl rfl rfl (decide_eq_false (by omega)) ?_; try simp only [Act.put, List.setIfInBounds_toArray, List.set_cons_zero, List.set_cons_succ]
  refine k_val (v := .bool false) rfl _ (.inl rfl) rfl ?_; try simp only [Act.put, List.setIfInBounds_toArray, List.set_cons_zero, List.set_cons_succ]
  refine k_val (v := .int .i64 ((Ws.length - n : Nat) : Int)) rfl _ (.inl rfl) rfl ?_; try simp only [Act.put, List.setIfInBounds_toArray, List.set_cons_zero, List.set_cons_succ]
  refine k_lss (m := ((Ws.length - n : Nat) : Int)) (n := 0) (t := false) rfl _ _ _ rfl rfl rfl (decide_eq_false (by omega)) ?_; try simp only [Act.put, List.setIfInBounds_toArray, List.set_cons_zero, List.set_cons_succ]
  refine k_pickF (t := false) rfl _ _ _ rfl rfl rfl ?_; try simp only [Act.put, List.setIfInBounds_toArray, List.set_cons_zero, List.set_cons_succ]
  refine k_end ?_
  intro w3 hT3
  have hT0 := hT2.trans hT3
  have hS := St.start w3
  clear h1 h2 hT2 hT3
  go_upto_region 6 with (refine st_makeW n hS rfl _ _ rfl rfl rfl (by omega) ?_; clear hS; intro w4 b7 hS hT4)
  have hB7 := hS.get .head
  have h7 : w3.heap.size ≤ b7 := (hS.own .head).elim id (fun h => by simp at h)
  have h4 := h.call (hT0.trans hT4)
  have hfar : ∀ x ∈ fpr b (.slice p Ws.length c), x ∉ [b7] := fun x hx hm => by
    have h1 := ((h.call hT0).lt hx).2
    rw [List.mem_singleton] at hm
    omega
  have hown0 : w4.ownsRow w.heap.size 37 32 (.slice (some ⟨b7, 0, none⟩) n n) n (wcs (List.replicate n zs32)) := ⟨by rw [wcs_len, List.length_replicate], .inr ⟨b7, n, _, rfl, Nat.le_trans hT0.size h7, hB7, Nat.le_refl _, by unfold maxLen; omega, by rw [List.size_toArray, wcs_len, List.length_replicate], by rw [List.toList_toArray]; exact List.take_of_length_le (by rw [wcs_len, List.length_replicate]; exact Nat.le_refl _)⟩⟩
  have HR := Lib.hid (fun w' (hT' : Tch [b7] w4 w') => h4.far hT' hfar)
  have HT4 := Lib.hid (hT0.trans hT4)
  have H7 := Lib.hid (Nat.le_trans hT0.size h7)
  clear hB7 h7 h4 hS hT4 hT0
  go_loopw [26] (fun i wr => ∃ (k : Nat) (P : List (List Nat)), i = .int .i64 (k : Int) ∧ k ≤ n ∧ Hid (P.length = n ∧ (∀ i, i < k → P.getD i [] = Ws.getD (Ws.length - 1 - i) []) ∧ wr.ownsRow w.heap.size 37 32 (.slice (some ⟨b7, 0, none⟩) n n) n (wcs P)) ∧ Tch [b7] w4 wr) (fun i _ => n - (intOf i).toNat)
  case atStart => exact ⟨0, List.replicate n zs32, rfl, Nat.zero_le _, Lib.hid ⟨by rw [List.length_replicate], fun i hi => absurd hi (Nat.not_lt_zero i), hown0⟩, Tch.refl _ _⟩
  case round =>
    obtain ⟨k, P, rfl, hk, HP, hT⟩ := hrel
    by_cases hlt : k < n
    · have hlt' : (k : Int) < (n : Int) := by omega
      obtain ⟨g, rfl, _⟩ := row_blk h.own (by omega)
      go_upto_region 8 with (fail)
      have hkk : Ws.length - 1 - k < Ws.length := by omega
      have hW := getD_of hkk
      obtain ⟨W, hWd⟩ : ∃ W, W = Ws.getD (Ws.length - 1 - k) [] := ⟨_, rfl⟩
      rw [← hWd] at hW
      have HW := Lib.hid hWd
      have hPl := HP.out.1
      have hPk : k < P.length := by omega
      have hr := HR.out wr hT
      have HBr := Lib.hid (fun w' (hT' : Tch [] wr w') => hT'.blk hr.blk (by simp))
      have HO := Lib.hid (fun w' (hT' : Tch [] wr w') => (hr.call hT').own)
      have HQ := Lib.hid (fun w' (hT' : Tch [] wr w') => own_far HP.out.2.2 hT' (by simp))
      have HTr := Lib.hid hT
      clear hr hT hWd hPl
      try simp only [Act.put, List.setIfInBounds_toArray, List.set_cons_zero, List.set_cons_succ]
      refine k_region_head (C := fun w' => Tch [] wr w') 16 (by kernel_rfl) (by kernel_rfl) (Tch.refl _ _).drew ?_
      try simp only [List.take_succ_cons, List.take_zero, List.drop_succ_cons, List.drop_zero]
      refine k_val (v := .slice (some ⟨b7, 0, none⟩) n n) rfl _ (.inl rfl) rfl ?_; try simp only [Act.put, List.setIfInBounds_toArray, List.set_cons_zero, List.set_cons_succ]
      refine k_val (v := .int .i64 (k : Int)) rfl _ (.inl rfl) rfl ?_; try simp only [Act.put, List.setIfInBounds_toArray, List.set_cons_zero, List.set_cons_succ]
      refine k_val (v := .pointer (some ⟨b, 0, none⟩)) rfl _ (.inl rfl) rfl ?_; try simp only [Act.put, List.setIfInBounds_toArray, List.set_cons_zero, List.set_cons_succ]
      refine k_nilI ⟨b, 0, none⟩ rfl _ rfl rfl ?_; try simp only [Act.put, List.setIfInBounds_toArray, List.set_cons_zero, List.set_cons_succ]
      refine k_faI rfl rfl rfl (fa_stkP b) ?_; try simp only [Act.put, List.setIfInBounds_toArray, List.set_cons_zero, List.set_cons_succ]
      refine k_cellC (b := b) (j := 0) (v := .slice (some ⟨g, 0, none⟩) Ws.length c) rfl _ _ rfl rfl (fun w' h => (HBr.out w' h).cell rfl) words_aggI ?_; try simp only [Act.put, List.setIfInBounds_toArray, List.set_cons_zero, List.set_cons_succ]
      refine k_val (v := .pointer (some ⟨b, 0, none⟩)) rfl _ (.inl rfl) rfl ?_; try simp only [Act.put, List.setIfInBounds_toArray, List.set_cons_zero, List.set_cons_succ]
      refine k_nilI ⟨b, 0, none⟩ rfl _ rfl rfl ?_; try simp only [Act.put, List.setIfInBounds_toArray, List.set_cons_zero, List.set_cons_succ]
      refine k_faI rfl rfl rfl (fa_stkP b) ?_; try simp only [Act.put, List.setIfInBounds_toArray, List.set_cons_zero, List.set_cons_succ]
      refine k_cellC (b := b) (j := 0) (v := .slice (some ⟨g, 0, none⟩) Ws.length c) rfl _ _ rfl rfl (fun w' h => (HBr.out w' h).cell rfl) words_aggI ?_; try simp only [Act.put, List.setIfInBounds_toArray, List.set_cons_zero, List.set_cons_succ]
      refine k_lenW (p := (some ⟨g, 0, none⟩)) (n := Ws.length) (c := c) rfl _ rfl rfl ?_; try simp only [Act.put, List.setIfInBounds_toArray, List.set_cons_zero, List.set_cons_succ]
      refine k_sub (m := (Ws.length : Int)) (n := 1) (s := ((Ws.length - 1 : Nat) : Int)) rfl _ _ _ _ rfl rfl rfl (by rw [IntKind.wrap_i64]; omega) ?_; try simp only [Act.put, List.setIfInBounds_toArray, List.set_cons_zero, List.set_cons_succ]
      refine k_val (v := .int .i64 (k : Int)) rfl _ (.inl rfl) rfl ?_; try simp only [Act.put, List.setIfInBounds_toArray, List.set_cons_zero, List.set_cons_succ]
      refine k_sub (m := (((Ws.length - 1 : Nat) : Int))) (n := (k : Int)) (s := ((Ws.length - 1 - k : Nat) : Int)) rfl _ _ _ _ rfl rfl rfl (by rw [IntKind.wrap_i64]; omega) ?_; try simp only [Act.put, List.setIfInBounds_toArray, List.set_cons_zero, List.set_cons_succ]
      refine k_in (v := .pointer (some ⟨g, (Ws.length - 1 - k) * 32, none⟩)) rfl (fun w' h => x_idxW _ _ rfl rfl rfl hkk) ?_; try simp only [Act.put, List.setIfInBounds_toArray, List.set_cons_zero, List.set_cons_succ]
      refine k_in (v := .agg (wv W)) rfl (fun w' h => x_ldW _ rfl rfl (HO.out w' h) hkk hW) ?_; try simp only [Act.put, List.setIfInBounds_toArray, List.set_cons_zero, List.set_cons_succ]
      refine k_end ?_
      intro w5 hT5
      have HQ5 := Lib.hid (HQ.out w5 hT5)
      go_wp2_with (first
        | (refine st_x (v := .pointer (some ⟨b7, k * 32, none⟩)) rfl (x_idxW (.tmp 29) (.tmp 30) rfl rfl rfl hlt) ?_)
        | (refine st_stW (W := W) (k := k) HQ5.out hPk rfl (.tmp 45) (.tmp 44) rfl rfl rfl ?_; intro w6 hO6 h6; have HO6 := Lib.hid h6; clear h6))
      go_roundw
      case rel =>
        refine ⟨k + 1, P.set k W, by go_num, hlt, Lib.hid ⟨by rw [List.length_set]; exact HP.out.1, fun i hi => ?_, HO6.out⟩, (HTr.out.trans (hT5.mono (by simp))).trans hO6.tch⟩
        by_cases hik : i = k
        · subst hik
          rw [← HW.out, List.getD_eq_getElem?_getD, List.getElem?_set_self hPk]; rfl
        · have := HP.out.2.1 i (by omega)
          rw [List.getD_eq_getElem?_getD, List.getElem?_set_ne (fun e => hik e.symm), ← List.getD_eq_getElem?_getD]
          exact this
      case measure => simp [intOf]; omega
    · obtain rfl : k = n := by omega
      have HR8 := Lib.hid (HR.out wr hT)
      have hS8 := St.one HR8.out.blk
      have HTr := Lib.hid hT
      clear hT
      have hcut : Ws.length - k ≤ Ws.length := by omega
      go_wp2_with (first
        | (refine st_cell1 (v := .slice p Ws.length c) hS8 rfl 27 _ rfl rfl .head rfl words_aggI ?_)
        | (refine st_x (v := .slice p (Ws.length - k) c) rfl (x_toW (.tmp 51) (.tmp 52) rfl rfl rfl hcut hc) ?_)
        | (refine st_storeV (v := .slice p Ws.length c) (v' := .slice p (Ws.length - k) c) HR8.out.blk rfl _ _ rfl rfl rfl rfl words_sizeI ?_; intro w9 hB9 hO9))
      go_ret2
      obtain ⟨r1, r2⟩ := StkIn.cut HR8.out rfl hcut hB9 hO9
      have hPe : P = outL Ws k := by
        apply List.ext_getElem?
        intro i
        by_cases hi : i < k
        · have h1 := HP.out.2.1 i hi
          have h2 := HP.out.1
          rw [List.getD_eq_getElem?_getD, List.getElem?_eq_getElem (by omega)] at h1
          unfold outL
          rw [List.getElem?_eq_getElem (by omega), List.getElem?_map, List.getElem?_range hi]
          simpa using h1
        · rw [List.getElem?_eq_none (by have := HP.out.1; omega), List.getElem?_eq_none (by rw [outL_len]; omega)]
      have hTw : Tch [] w wr := Tch.fresh HT4.out HTr.out (fun x hx => by rw [List.mem_singleton.1 hx]; exact H7.out)
      refine PopP.mk rfl ?_ r1 ((Turned.of_tch hTw _ _).trans r2)
      rw [outL_len, ← hPe]
      refine own_far HP.out.2.2 hO9.tch (fun j hj => ?_)
      rw [List.mem_singleton]
      intro e
      obtain rfl : b7 = j := Option.some.inj hj
      have h2 := HH.out.blk.lt
      have h3 := H7.out
      omega
end Go.Proofs.Ytlliidfkjlmadaa
