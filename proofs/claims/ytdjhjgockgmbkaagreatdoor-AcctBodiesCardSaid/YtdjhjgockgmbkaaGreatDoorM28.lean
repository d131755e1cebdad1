/- acct.fill: a field of a body is made what an item says. -/
import Derived.Test.YtdjhjgockgmbkaaGreatDoorM27
import Derived.Laws.CopyOwn
set_option linter.unusedVariables false
set_option linter.unusedSimpArgs false
namespace Go.Proofs.YtdjhjgockgmbkaaGreatDoor
open Go.RowKit
set_option linter.unusedVariables false

theorem wvL (W : List Nat) : (wv W).toList.length = 32 := by rw [Array.length_toList]; exact bc_size _ _
theorem bodyC_set0 (n m : Int) (B R H : List Nat) : (bodyC n B R H).setIfInBounds 0 (.int .i64 m) = bodyC m B R H := by simp [bodyC]
theorem splice_b (n : Int) (B R H W : List Nat) : splice (bodyC n B R H) 1 (wv W) = bodyC n W R H := by
  have hs : (wv W).size = 32 := bc_size _ _
  unfold splice
  rw [hs]
  show ((Value.int .i64 n :: ((wv B).toList ++ ((wv R).toList ++ (wv H).toList))).take 1 ++ (wv W).toList ++ (Value.int .i64 n :: ((wv B).toList ++ ((wv R).toList ++ (wv H).toList))).drop 33).toArray = _
  rw [List.take_succ_cons, List.take_zero, List.drop_succ_cons, List.drop_left' (wvL B)]
  rfl
theorem splice_r (n : Int) (B R H W : List Nat) : splice (bodyC n B R H) 33 (wv W) = bodyC n B W H := by
  have hs : (wv W).size = 32 := bc_size _ _
  unfold splice
  rw [hs]
  show ((Value.int .i64 n :: ((wv B).toList ++ ((wv R).toList ++ (wv H).toList))).take 33 ++ (wv W).toList ++ (Value.int .i64 n :: ((wv B).toList ++ ((wv R).toList ++ (wv H).toList))).drop 65).toArray = _
  rw [List.take_succ_cons, List.drop_succ_cons, List.take_left' (wvL B), ← List.append_assoc, List.drop_left' (by rw [List.length_append, wvL, wvL])]
  simp [bodyC]
theorem splice_h (n : Int) (B R H W : List Nat) : splice (bodyC n B R H) 65 (wv W) = bodyC n B R W := by
  have hs : (wv W).size = 32 := bc_size _ _
  unfold splice
  rw [hs]
  show ((Value.int .i64 n :: ((wv B).toList ++ ((wv R).toList ++ (wv H).toList))).take 65 ++ (wv W).toList ++ (Value.int .i64 n :: ((wv B).toList ++ ((wv R).toList ++ (wv H).toList))).drop 97).toArray = _
  rw [List.take_succ_cons, List.drop_succ_cons, ← List.append_assoc, List.take_left' (by rw [List.length_append, wvL, wvL]), List.drop_eq_nil_of_le (by rw [List.length_append, List.length_append, wvL, wvL, wvL]; decide)]
  simp [bodyC]
theorem wv_nb {l : List Nat} (h : l.length = 32) : (nb l).toArray = wv l := by
  apply Array.ext_getElem?
  intro i
  unfold wv
  rw [List.getElem?_toArray]
  by_cases hi : i < 32
  · rw [bc_get hi, nb_get (by omega)]
  · rw [bc_none (by omega), List.getElem?_eq_none (by rw [nb_length]; omega)]
theorem splice_nil (c : Array Value) (j : Nat) : splice c j (nb []).toArray = c := by
  unfold splice
  simp [nb]
section
variable {ops : Array Oper} {rest : List Oper} {o : Oper} {a : Act} {bs : List Nat} {w0 w : World} {Q : Exit → Act → World → Prop} {L L' : List Ent} {b : Nat} {t : TypeId} {c c' : Array Value}
/-- Cells are stored into the middle of a block. -/
theorem st_storeM {j n : Nat} (hS : St bs w0 w L) (hgd : o.guard = none) (ty : TypeId) (x y : Operand) (ho : o.op = .store ty x y) (hx : a.eval x = .pointer (some ⟨b, j, none⟩)) (hy : a.eval y = .agg c') (hi : (Tryz.prog.info? ty).map (·.size) = some n) (hn' : c'.size = n) {cn : Array Value} (hcn : splice c j c' = cn)
    (m : Upd L b t c cn L') (hl : j + c'.size ≤ c.size) (h1 : c'.all (·.oneCell') = true)
    (h : ∀ w', St bs w0 w' L' → Only b w w' → wpList Tryz.prog ops Q rest (a.put o.dst undef) w') : wpList Tryz.prog ops Q (o :: rest) a w :=
  wpList_plain hgd fun K hK => by
    subst hcn
    have hl' := (hS.get m.at_).storeAt (P := Tryz.prog) hi hn' hl h1
    unfold Oper.wp execOp
    simp only [ho, hx, hy, Sem.run_bind, hl', Result.andThen_ok, Sem.run_pure]
    exact hK _ _ (h _ (hS.upd m (Only.setRow _ _ _) ((hS.get m.at_).row _)) (Only.setRow _ _ _))
/-- Bytes are copied into the middle of a block. -/
theorem st_copyM {j n cc : Nat} {v : Value} {l : List Nat} (hS : St bs w0 w L) (hgd : o.guard = none) (d s : Operand) (ho : o.op = .call { callee := .builtin .copy, args := #[d, s], argTypes := #[26, 26] })
    (hd : a.eval d = .slice (some ⟨b, j, none⟩) n cc) (hs : a.eval s = v) (hv : RdB w v l) {cn : Array Value} (hcn : splice c j (nb (l.take n)).toArray = cn) (m : Upd L b t c cn L') (hfit : j + n ≤ c.size)
    (h : ∀ w', St bs w0 w' L' → Only b w w' → wpList Tryz.prog ops Q rest (a.put o.dst (goInt (l.take n).length)) w') : wpList Tryz.prog ops Q (o :: rest) a w := by
  obtain ⟨p, c', rfl, h2, h3, h4⟩ := hv
  by_cases hl0 : l.take n = []
  · rw [hl0, splice_nil] at hcn
    subst hcn
    rw [hl0] at h
    refine wpList_copy_nothing hgd d s _ _ ho _ bytes_ty u8_size _ _ _ _ _ _ hd hs ?_ ?_
    · have : (l.take n).length = 0 := by rw [hl0]; rfl
      rw [List.length_take] at this
      show min l.length n = 0
      rw [Nat.min_comm]; exact this
    · exact h w (hS.upd m (Only.refl _ _) (hS.get m.at_)) (Only.refl _ _)
  · have hlne : l ≠ [] := by intro e; subst e; simp at hl0
    obtain ⟨pb, po, rfl, h6, h7⟩ := h4 hlne
    have hlt : (l.take n).length = min n l.length := List.length_take
    refine wpList_copy_own hgd d s 26 26 ho 5 bytes_ty u8_size b j n cc ⟨pb, po, none⟩ l.length c' hd hs c t (hS.get m.at_) (nb (l.take n)) (by rw [nb_length, hlt, Nat.min_comm]) (fun i u hj => ?_) (by rw [nb_length, hlt]; omega) (fun u hu => ?_) ?_
    · have hj' : i < (l.take n).length := by
        have := (List.getElem?_eq_some_iff.1 hj).1
        rwa [nb_length] at this
      have hadd : (⟨pb, po, none⟩ : Addr).add i = ⟨pb, po + i, none⟩ := by unfold Addr.add; split <;> simp_all
      rw [hadd, h7 i (by omega), ← hj, nb_get hj']
      rw [List.getD_eq_getElem?_getD, List.getD_eq_getElem?_getD, List.getElem?_take, if_pos (by omega)]
    · obtain ⟨x, _, rfl⟩ := List.mem_map.1 hu; rfl
    · have e : (c.toList.take j ++ (nb (l.take n) ++ c.toList.drop (j + (nb (l.take n)).length))).toArray = cn := by
        rw [← hcn]; unfold splice; simp
      rw [e, nb_length]
      exact h _ (hS.upd m (Only.setRow _ _ _) ((hS.get m.at_).row _)) (Only.setRow _ _ _)
end
theorem count_size : (Tryz.prog.info? 176).map (·.size) = some 1 := by kernel_rfl
/-- What fill leaves. -/
def FillPost (b : Nat) (r : Option (Array Value)) (w : World) (e : Ending) (w' : World) : Prop :=
  Tch [b] w w' ∧ e = .returned (.bool r.isSome) ∧ ∀ c, r = some c → Blk w' b 25 c
theorem intC {X : List Nat} {k : Nat} {x0 vb vl : Value} {it : It} {w w' : World} (h : ItZ X w k x0 vb vl it) (hT : Tch X w w') : Calls Tryz.prog 93 #[.agg #[x0, vb, vl]] w' (IntP (intOfN it) w') := by
  have hi := (h.tch hT).c
  cases k with
  | zero => exact hi.elim
  | succ k => cases it with
    | str L => unfold ItC at hi; obtain ⟨rfl, hr, _⟩ := hi; exact pint_str _ _ _ _ (hr.mono (by simp))
    | lst l => unfold ItC at hi; obtain ⟨rfl, _⟩ := hi; exact pint_lst _ _ _ _
theorem wordC {X : List Nat} {k : Nat} {x0 vb vl : Value} {it : It} {w w' : World} (h : ItZ X w k x0 vb vl it) (hT : Tch X w w') : Calls Tryz.prog 94 #[.agg #[x0, vb, vl]] w' (WordPost it w') := by
  have hi := (h.tch hT).c
  cases k with
  | zero => exact hi.elim
  | succ k => cases it with
    | str L => unfold ItC at hi; obtain ⟨rfl, hr, _⟩ := hi; exact pword_any _ _ _ _ (hr.mono (by simp))
    | lst l => unfold ItC at hi; obtain ⟨rfl, _⟩ := hi; exact pword_lst _ _ _ _
set_option maxHeartbeats 2000000 in
set_option maxRecDepth 100000 in
theorem fill_count (b : Nat) (n : Int) (B R H : List Nat) (k : Nat) (x0 vb vl : Value) (it : It) (w : World) (hB : Blk w b 25 (bodyC n B R H)) (hit : ItZ [b] w k x0 vb vl it) :
    Calls Tryz.prog 65 #[partV b 0, .agg #[x0, vb, vl]] w (FillPost b ((intOfN it).map fun m : Nat => bodyC ((m : Nat) : Int) B R H) w) := by
  obtain ⟨f0, f1, f2, hty, _⟩ := item_ty
  have hS := St.one hB
  have HI := Lib.hid hit
  clear hit
  have k1 := taCC
  simp only [partV]
  obtain ⟨r, hr⟩ : ∃ r, r = intOfN it := ⟨_, rfl⟩
  have HR := Lib.hid hr
  rw [← hr]
  clear hr
  go_enter Tryz.func65, Tryz.ntmps65
  go_wp2_with (first
    | (refine st_box (L := [(b, 25, bodyC n B R H)]) hS rfl 68 _ rfl rfl ?_; clear hS; intro w3 b3 hS)
    | (refine st_load hS rfl 68 _ rfl rfl .head hty rfl itemN_size (by rfl) ?_)
    | (go_at_call 93; refine (intC HI.out hS.frame).mono ?_; rintro e w4 ⟨rfl, hT4⟩; rw [← HR.out]; replace hS := hS.call hT4; clear hT4)
    | (refine st_store1 (b := b) (j := 0) hS rfl 176 _ _ rfl rfl rfl count_size (.tail .head) (by rw [bodyC_size]; decide) ?_; clear hS; intro w5 hS; rw [bodyC_set0] at hS))
  go_ret
  refine ⟨hS.frame, by cases r <;> rfl, fun c hc => ?_⟩
  cases r with
  | none => cases hc
  | some m => cases hc; exact hS.get (.tail .head)
set_option maxHeartbeats 2000000 in
set_option maxRecDepth 100000 in
theorem fill_amount (b : Nat) (n : Int) (B R H : List Nat) (k : Nat) (x0 vb vl : Value) (it : It) (w : World) (hB : Blk w b 25 (bodyC n B R H)) (hit : ItZ [b] w k x0 vb vl it) :
    Calls Tryz.prog 65 #[partV b 1, .agg #[x0, vb, vl]] w (FillPost b ((wordOf it).map fun W => bodyC n W R H) w) := by
  obtain ⟨f0, f1, f2, hty, _⟩ := item_ty
  have hS := St.one hB
  have HI := Lib.hid hit
  clear hit
  have k1 := taAC
  have k2 := taAA
  simp only [partV]
  obtain ⟨r, hr⟩ : ∃ r, r = wordOf it := ⟨_, rfl⟩
  have HR := Lib.hid hr
  rw [← hr]
  clear hr
  go_enter Tryz.func65, Tryz.ntmps65
  go_wp2_with (first
    | (refine st_box (L := [(b, 25, bodyC n B R H)]) hS rfl 68 _ rfl rfl ?_; clear hS; intro w3 b3 hS)
    | (refine st_load hS rfl 68 _ rfl rfl (.tail .head) hty rfl itemN_size (by rfl) ?_)
    | (refine st_new (L := [(b3, 68, #[x0, vb, vl]), (b, 25, bodyC n B R H)]) hS rfl 23 rfl word_zero ?_; clear hS; intro w9 b9 hS)
    | (go_at_call 94; refine (wordC HI.out hS.frame).mono ?_; rintro e w4 ⟨rfl, hT4⟩; rw [← HR.out]; replace hS := hS.call hT4; clear hT4)
    | (refine st_store (b := b9) (c' := wv (r.getD zeros32)) hS rfl 23 _ _ rfl rfl rfl .head wordN_size (wf_size _) (bc_size _ _) (bc_one _ _) ?_; clear hS; intro w5 hS)
    | (refine st_load (b := b9) hS rfl 23 _ rfl rfl .head wordN_type rfl wordN_size (bc_size _ _) ?_)
    | (refine st_storeM (b := b) (j := 1) (c' := wv (r.getD zeros32)) hS rfl 177 _ _ rfl rfl rfl amount_size (bc_size _ _) (splice_b _ _ _ _ _) (.tail (.tail .head)) (by rw [bodyC_size, show (wv (r.getD zeros32)).size = 32 from bc_size _ _]; decide) (bc_one _ _) ?_; clear hS; intro w6 hS hO6))
  go_ret
  refine ⟨hS.frame, by cases r <;> rfl, fun c hc => ?_⟩
  cases r with
  | none => cases hc
  | some m => cases hc; exact hS.get (.tail (.tail .head))
end Go.Proofs.YtdjhjgockgmbkaaGreatDoor

/- acct.fill at the two hashes of a body; at any field. -/
namespace Go.Proofs.YtdjhjgockgmbkaaGreatDoor
open Go.RowKit
set_option linter.unusedVariables false

/-- The bytes of an item, and whether they may be a hash. -/
def hashOf : It → Option (List Nat)
  | .str l => if l.length = 32 then some l else none
  | .lst _ => none
theorem hashOf_str (l : List Nat) : hashOf (.str l) = if l.length = 32 then some l else none := rfl
set_option maxHeartbeats 2000000 in
set_option maxRecDepth 100000 in
theorem fill_hash_str (b o : Nat) (c : Array Value) (g : List Nat → Array Value) (k : Nat) (yb yl : Value) (l : List Nat) (w : World) (hB : Blk w b 25 c) (hc : o + 32 ≤ c.size) (hg : ∀ l, l.length = 32 → splice c o (wv l) = g l) (hit : RdA [b] w yb l) :
    Calls Tryz.prog 65 #[.iface 175 (.pointer (some ⟨b, o, none⟩)), .agg #[.bool false, yb, yl]] w (FillPost b ((hashOf (.str l)).map g) w) := by
  obtain ⟨f0, f1, f2, hty, _⟩ := item_ty
  have hS := St.one hB
  obtain ⟨p, n, cc, rfl⟩ := slice_keep hit
  have hln := hit.len
  have HI := Lib.hid (And.intro hit hln)
  have HC := Lib.hid hc
  have k1 := taHC
  have k2 := taHA
  have k3 := taHH
  have k4 := sl_hash b o
  obtain ⟨d, hd⟩ : ∃ d, ((n : Int) == 32) = d := ⟨_, rfl⟩
  have HD := Lib.hid (show d = (hashOf (.str l)).isSome from by
    rw [hashOf_str, ← hd]
    by_cases h : l.length = 32
    · rw [if_pos h]; simp; omega
    · rw [if_neg h]; simp; omega)
  have HG := Lib.hid hg
  clear hit hln hc hg
  go_enter Tryz.func65, Tryz.ntmps65
  go_upto_region 15 with (first
    | (refine st_box (L := [(b, 25, c)]) hS rfl 68 _ rfl rfl ?_; clear hS; intro w3 b3 hS))
  refine k_seq (C := fun w' => w' = w3) rfl ?_
  refine k_fld rfl _ _ _ rfl rfl (item_f0 _) ?_; try simp only [Act.put, List.setIfInBounds_toArray, List.set_cons_zero, List.set_cons_succ]
  refine k_cellC rfl _ _ rfl rfl (by rintro w' rfl; exact (hS.get .head).cell (j := 0) rfl) bool_aggN ?_; try simp only [Act.put, List.setIfInBounds_toArray, List.set_cons_zero, List.set_cons_succ]
  refine k_not rfl _ _ rfl rfl ?_; try simp only [Act.put, List.setIfInBounds_toArray, List.set_cons_zero, List.set_cons_succ, Bool.not_false]
  refine k_boolm rfl _ rfl rfl ?_; try simp only [Act.put, List.setIfInBounds_toArray, List.set_cons_zero, List.set_cons_succ]
  refine k_fld rfl _ _ _ rfl rfl (item_f1 _) ?_; try simp only [Act.put, List.setIfInBounds_toArray, List.set_cons_zero, List.set_cons_succ]
  refine k_cellC rfl _ _ rfl rfl (by rintro w' rfl; exact (hS.get .head).cell (j := 1) rfl) bytes_aggN ?_; try simp only [Act.put, List.setIfInBounds_toArray, List.set_cons_zero, List.set_cons_succ]
  refine k_lenSl rfl _ rfl rfl ?_; try simp only [Act.put, List.setIfInBounds_toArray, List.set_cons_zero, List.set_cons_succ]
  refine k_ints (t := d) rfl _ _ _ rfl rfl rfl hd ?_; try simp only [Act.put, List.setIfInBounds_toArray, List.set_cons_zero, List.set_cons_succ]
  refine k_pickT rfl _ _ _ rfl rfl rfl ?_; try simp only [Act.put, List.setIfInBounds_toArray, List.set_cons_zero, List.set_cons_succ]
  refine k_boola rfl _ rfl rfl ?_; try simp only [Act.put, List.setIfInBounds_toArray, List.set_cons_zero, List.set_cons_succ]
  refine k_end ?_
  rintro w5 rfl
  go_upto_region 16 with (fail)
  refine k_region_head (C := fun w' => St [b] w w' [(b3, 68, #[.bool false, .slice p n cc, yl]), (b, 25, c)]) 5 (by kernel_rfl) (by kernel_rfl) hS.drew ?_
  simp only [List.take_succ_cons, List.take_zero, List.drop_succ_cons, List.drop_zero]
  refine k_ptr ⟨b, o, none⟩ rfl _ rfl rfl ?_; try simp only [Act.put, List.setIfInBounds_toArray, List.set_cons_zero, List.set_cons_succ]
  refine k_nil ⟨b, o, none⟩ rfl _ rfl rfl ?_; try simp only [Act.put, List.setIfInBounds_toArray, List.set_cons_zero, List.set_cons_succ]
  refine k_in (v := .slice (some ⟨b, o, none⟩) 32 32) rfl (fun w' _ => x_sl _ _ rfl rfl (k4 w')) ?_; try simp only [Act.put, List.setIfInBounds_toArray, List.set_cons_zero, List.set_cons_succ]
  refine k_fld rfl _ _ _ rfl rfl (item_f1 _) ?_; try simp only [Act.put, List.setIfInBounds_toArray, List.set_cons_zero, List.set_cons_succ]
  refine k_cellC rfl _ _ rfl rfl (fun w' h => (h.get .head).cell (j := 1) rfl) bytes_aggN ?_; try simp only [Act.put, List.setIfInBounds_toArray, List.set_cons_zero, List.set_cons_succ]
  refine k_end ?_
  clear hS
  intro w7 hS
  go_wp2_with (first
    | (refine st_copyM (b := b) (j := o) (n := 32) (l := l) hS rfl _ _ rfl rfl rfl (HI.out.1.tch hS.frame).rdB rfl (.tail .head) HC.out ?_; clear hS; intro w8 hS hO8))
  go_ret
  refine ⟨hS.frame, by rw [HD.out]; cases hashOf (.str l) <;> rfl, fun c' hc' => ?_⟩
  have hx : hashOf (.str l) = some l := by
    rw [hashOf_str] at hc' ⊢
    by_cases h : l.length = 32
    · rw [if_pos h]
    · rw [if_neg h] at hc'; cases hc'
  have hl : l.length = 32 := by
    rw [hashOf_str] at hx
    by_cases h : l.length = 32
    · exact h
    · rw [if_neg h] at hx; cases hx
  rw [hx] at hc'
  cases hc'
  have h := hS.get (.tail .head)
  rw [List.take_of_length_le (by omega), wv_nb hl, HG.out l hl] at h
  exact h
set_option maxHeartbeats 2000000 in
set_option maxRecDepth 100000 in
theorem fill_hash_lst (b o : Nat) (c : Array Value) (g : List Nat → Array Value) (yl : Value) (ts : List It) (w : World) (hB : Blk w b 25 c) (hc : o + 32 ≤ c.size) :
    Calls Tryz.prog 65 #[.iface 175 (.pointer (some ⟨b, o, none⟩)), .agg #[.bool true, .slice none 0 0, yl]] w (FillPost b ((hashOf (.lst ts)).map g) w) := by
  obtain ⟨f0, f1, f2, hty, _⟩ := item_ty
  have hS := St.one hB
  have HC := Lib.hid hc
  have k1 := taHC
  have k2 := taHA
  have k3 := taHH
  have k4 := sl_hash b o
  clear hc
  go_enter Tryz.func65, Tryz.ntmps65
  go_upto_region 15 with (first
    | (refine st_box (L := [(b, 25, c)]) hS rfl 68 _ rfl rfl ?_; clear hS; intro w3 b3 hS))
  refine k_seq (C := fun w' => w' = w3) rfl ?_
  refine k_fld rfl _ _ _ rfl rfl (item_f0 _) ?_; try simp only [Act.put, List.setIfInBounds_toArray, List.set_cons_zero, List.set_cons_succ]
  refine k_cellC rfl _ _ rfl rfl (by rintro w' rfl; exact (hS.get .head).cell (j := 0) rfl) bool_aggN ?_; try simp only [Act.put, List.setIfInBounds_toArray, List.set_cons_zero, List.set_cons_succ]
  refine k_not rfl _ _ rfl rfl ?_; try simp only [Act.put, List.setIfInBounds_toArray, List.set_cons_zero, List.set_cons_succ, Bool.not_true]
  refine k_boolm rfl _ rfl rfl ?_; try simp only [Act.put, List.setIfInBounds_toArray, List.set_cons_zero, List.set_cons_succ]
  refine k_skip rfl rfl rfl rfl rfl ?_; try simp only [Act.put, List.setIfInBounds_toArray, List.set_cons_zero, List.set_cons_succ]
  refine k_skip rfl rfl rfl rfl rfl ?_; try simp only [Act.put, List.setIfInBounds_toArray, List.set_cons_zero, List.set_cons_succ]
  refine k_skip rfl rfl rfl rfl rfl ?_; try simp only [Act.put, List.setIfInBounds_toArray, List.set_cons_zero, List.set_cons_succ]
  refine k_skip rfl rfl rfl rfl rfl ?_; try simp only [Act.put, List.setIfInBounds_toArray, List.set_cons_zero, List.set_cons_succ]
  refine k_pickF rfl _ _ _ rfl rfl rfl ?_; try simp only [Act.put, List.setIfInBounds_toArray, List.set_cons_zero, List.set_cons_succ]
  refine k_boola rfl _ rfl rfl ?_; try simp only [Act.put, List.setIfInBounds_toArray, List.set_cons_zero, List.set_cons_succ]
  refine k_end ?_
  rintro w5 rfl
  go_upto_region 16 with (fail)
  refine k_region_head (C := fun w' => St [b] w w' [(b3, 68, #[.bool true, .slice none 0 0, yl]), (b, 25, c)]) 5 (by kernel_rfl) (by kernel_rfl) hS.drew ?_
  simp only [List.take_succ_cons, List.take_zero, List.drop_succ_cons, List.drop_zero]
  refine k_ptr ⟨b, o, none⟩ rfl _ rfl rfl ?_; try simp only [Act.put, List.setIfInBounds_toArray, List.set_cons_zero, List.set_cons_succ]
  refine k_nil ⟨b, o, none⟩ rfl _ rfl rfl ?_; try simp only [Act.put, List.setIfInBounds_toArray, List.set_cons_zero, List.set_cons_succ]
  refine k_in (v := .slice (some ⟨b, o, none⟩) 32 32) rfl (fun w' _ => x_sl _ _ rfl rfl (k4 w')) ?_; try simp only [Act.put, List.setIfInBounds_toArray, List.set_cons_zero, List.set_cons_succ]
  refine k_fld rfl _ _ _ rfl rfl (item_f1 _) ?_; try simp only [Act.put, List.setIfInBounds_toArray, List.set_cons_zero, List.set_cons_succ]
  refine k_cellC rfl _ _ rfl rfl (fun w' h => (h.get .head).cell (j := 1) rfl) bytes_aggN ?_; try simp only [Act.put, List.setIfInBounds_toArray, List.set_cons_zero, List.set_cons_succ]
  refine k_end ?_
  clear hS
  intro w7 hS
  go_wp2_with (first
    | (refine st_copyM (b := b) (j := o) (n := 32) (l := []) hS rfl _ _ rfl rfl rfl (RdB.nil _) rfl (.tail .head) HC.out ?_; clear hS; intro w8 hS hO8))
  go_ret
  exact ⟨hS.frame, rfl, fun c' hc' => by cases hc'⟩
/-- What a field is made. -/
def fillR (k : Nat) (n : Int) (B R H : List Nat) (it : It) : Option (Array Value) := match k with
  | 0 => (intOfN it).map fun m : Nat => bodyC ((m : Nat) : Int) B R H
  | 1 => (wordOf it).map fun W => bodyC n W R H
  | 2 => (hashOf it).map fun W => bodyC n B W H
  | _ => (hashOf it).map fun W => bodyC n B R W
theorem fill_any (b j : Nat) (hj : j < 4) (n : Int) (B R H : List Nat) (k : Nat) (x0 vb vl : Value) (it : It) (w : World) (hB : Blk w b 25 (bodyC n B R H)) (hit : ItZ [b] w k x0 vb vl it) :
    Calls Tryz.prog 65 #[partV b j, .agg #[x0, vb, vl]] w (FillPost b (fillR j n B R H it) w) := by
  have hh : ∀ (o : Nat) (g : List Nat → Array Value), o + 32 ≤ (bodyC n B R H).size → (∀ l, l.length = 32 → splice (bodyC n B R H) o (wv l) = g l) → Calls Tryz.prog 65 #[.iface 175 (.pointer (some ⟨b, o, none⟩)), .agg #[x0, vb, vl]] w (FillPost b ((hashOf it).map g) w) := by
    intro o g ho hg
    cases k with
    | zero => exact hit.elim
    | succ k => cases it with
      | str L => unfold ItZ at hit; obtain ⟨rfl, hr, _⟩ := hit; exact fill_hash_str b o _ g k vb vl L w hB ho hg hr
      | lst l => unfold ItZ at hit; obtain ⟨rfl, rfl, _⟩ := hit; exact fill_hash_lst b o _ g vl l w hB ho
  match j, hj with
  | 0, _ => exact fill_count b n B R H k x0 vb vl it w hB hit
  | 1, _ => exact fill_amount b n B R H k x0 vb vl it w hB hit
  | 2, _ => exact hh 33 _ (by rw [bodyC_size]; decide) (fun l _ => splice_r n B R H l)
  | 3, _ => exact hh 65 _ (by rw [bodyC_size]; decide) (fun l _ => splice_h n B R H l)
end Go.Proofs.YtdjhjgockgmbkaaGreatDoor

/- acct.item: the list of a body; acct.Pack. -/
namespace Go.Proofs.YtdjhjgockgmbkaaGreatDoor
open Go.RowKit
set_option linter.unusedVariables false

theorem build_listQ (p : Option Addr) (m c : Nat) (w : World) : (Instr.build 68 #[(0, .bool true), (2, .slice p m c)]).run Tryz.prog w = .ok (.agg #[.bool true, .slice none 0 0, .slice p m c]) w := by kernel_rfl
theorem bdL_len {x : Bd} (h : x.Ok) (k : Nat) : (bdL x k).length ≤ 32 := by
  match k with
  | 0 => have := stripZ_le (bytesN x.n); rw [bytesN_len] at this; exact this
  | 1 => have := stripZ_le x.b; rw [h.b.1] at this; exact this
  | 2 => exact Nat.le_of_eq h.r.1
  | _ + 3 => exact Nat.le_of_eq h.h.1
theorem bd_it (x : Bd) : .lst (((List.range 4).map (bdL x)).map .str) = x.it := rfl
theorem ownForm {w : World} {B n : Nat} {v : Value} {us : List Value} (h : w.ownsRow B 68 3 v n us) : ∃ p c, v = .slice p n c := by
  rcases h.2 with ⟨rfl, h0⟩ | ⟨g, cap, cur, rfl, _⟩
  · exact ⟨none, 0, by rw [h0]⟩
  · exact ⟨_, cap, rfl⟩
def ItemBd (x : Bd) (w : World) (e : Ending) (w' : World) : Prop :=
  Tch [] w w' ∧ ∃ p m c, e = .returned (.agg #[.bool true, .slice none 0 0, .slice p m c]) ∧ ItC [] w' 2 (.bool true) (.slice none 0 0) (.slice p m c) x.it
set_option maxHeartbeats 4000000 in
set_option maxRecDepth 100000 in
theorem item_bd (b : Nat) (x : Bd) (w : World) (h : BdAt w b x) : Calls Tryz.prog 26 #[.pointer (some ⟨b, 0, none⟩)] w (ItemBd x w) := by
  obtain ⟨f0, f1, f2, hty, _⟩ := item_ty
  have hS := St.start w
  have HB := Lib.hid h
  have hbw := h.1.lt
  clear h
  have kb := build_listQ
  go_enter Tryz.func26, Tryz.ntmps26
  go_wp2_with (first
    | (refine st_new (L := []) hS rfl 68 rfl itemN_zero ?_; clear hS; intro w2 b2 hS)
    | (go_at_call 59; refine (parts_any b _).mono ?_; rintro e w3 ⟨rfl, hT3⟩; replace hS := hS.call hT3; clear hT3))
  have hb2 : b2 < w3.heap.size := (hS.get .head).lt
  have hne2 : b ≠ b2 := by rcases hS.own .head with h | h; · omega
                           · simp at h
  go_loopw [3, 8] (fun s3 s8 wr => ∃ (k : Nat) (v : Value), v = s3 ∧ s8 = .int .i64 (k : Int) ∧ k ≤ 4 ∧ Tch [] w3 wr ∧ Hid (∃ ys : List Value, ys.length = k ∧ wr.ownsRow w3.heap.size 68 3 v k (iCells ys) ∧ RdL (v.ownBlock.toList ++ [b2]) wr ys ((List.range k).map (bdL x)))) (fun _ i _ => 4 - (intOf i).toNat)
  case atStart => exact ⟨0, _, rfl, rfl, Nat.zero_le _, Tch.refl _ _, Lib.hid ⟨[], rfl, ⟨rfl, .inl ⟨rfl, rfl⟩⟩, rfl, fun i h => absurd h (by simp)⟩⟩
  case round =>
    obtain ⟨k, v, rfl, rfl, hk, hT, HI⟩ := hrel
    by_cases hlt : k < 4
    · obtain ⟨ys, hys, hown, hrd⟩ := HI.out
      have hvlt : ∀ y ∈ v.ownBlock.toList ++ [b2], y < wr.heap.size := by
        intro y hy
        rcases List.mem_append.1 hy with hy | hy
        · exact (hown.lt y (by simpa using hy)).2
        · rw [List.mem_singleton.1 hy]; exact Nat.lt_of_lt_of_le hb2 hT.size
      have hbv : b ∉ v.ownBlock.toList ++ [b2] := by
        intro hy
        rcases List.mem_append.1 hy with hy | hy
        · have h1 := (hown.lt b (by simpa using hy)).1
          have h2 := hS.frame.size
          omega
        · exact hne2 (List.mem_singleton.1 hy)
      have HSH := Lib.hid (show_any (v.ownBlock.toList ++ [b2]) b k x wr hlt ((HB.out.tch hS.frame (by simp)).tch hT (by simp)) hvlt hbv)
      have HO := Lib.hid (And.intro hys (And.intro hown hrd))
      clear hown hrd HI hvlt hbv
      have hk4 : (k : Int) < 4 := by omega
      go_wp2_with (first
        | (refine st_x (v := partV b k) rfl (x_idxP (k := k) _ _ rfl rfl rfl hlt) ?_)
        | (go_at_call 60; refine HSH.out.mono ?_; rintro e w4 ⟨hT4, p, n, c, rfl, hr⟩; have HR := Lib.hid hr; clear hr)
        | (refine st_buildC #[(0, .agg #[.bool false, .slice p n c, .slice none 0 0])] rfl rfl (by simp only [List.map_toArray, List.map_cons, List.map_nil]; rfl) (buildI1Q p n c) ?_; intro w5 hw5)
        | (subst hw5; refine st_appQ (w0 := w3) (n := k) (us := iCells ys) rfl _ _ rfl rfl rfl (HO.out.2.1.kept hT4.grownBy (by cases v.ownBlock <;> simp)) (hT.trans hT4) (by omega) ?_; intro v' w6 hown6 hT6 hkeep; have HF := Lib.hid (And.intro hown6 hkeep); clear hown6 hkeep))
      go_roundw
      case rel =>
        refine ⟨k + 1, v', rfl, by go_num, by omega, hT6, Lib.hid ⟨ys ++ [.slice p n c], by rw [List.length_append, HO.out.1]; rfl, ?_, ?_⟩⟩
        · rw [iCells_snoc]; exact HF.out.1
        · rw [List.range_succ, List.map_append, List.map_singleton]
          exact HF.out.2 [b2] _ _ ((HO.out.2.2.tch (hT4.mono (by simp))).snoc HR.out)
      case measure => simp [intOf]; omega
    · obtain rfl : k = 4 := by omega
      obtain ⟨ys, hys, hown, hrd⟩ := HI.out
      obtain ⟨p, c, rfl⟩ := ownForm hown
      have HO := Lib.hid (And.intro hys (And.intro hown hrd))
      clear hown hrd HI
      have hSr := hS.call hT
      go_wp2_with (first
        | (refine st_storeO (b := b2) (c' := #[.bool true, .slice none 0 0, .slice p 4 c]) hSr rfl 68 _ _ rfl rfl rfl .head itemN_size (by rfl) (by rfl) (oneN3 rfl rfl rfl) ?_; intro w7 hS7 hO7))
      refine post_cell 2 68 rfl rfl rfl (hS7.get .head) hty rfl itemN_size rfl ?_
      refine ⟨hS7.frame, _, _, _, rfl, ?_⟩
      have hown7 := HO.out.2.1.kept (row := some b2) (w' := w7) ⟨hO7.os, hO7.tape, hO7.output, Nat.le_of_eq hO7.size.symm, fun k hk he => hO7.block k (fun e => he (by rw [e]))⟩ (.inr (fun e => by have := (HO.out.2.1.lt _ e).1; omega))
      have hrd7 := HO.out.2.2.tch (w' := w7) ((Tch.refl _ _).only hO7 (.inr (by simp)))
      rw [← bd_it]
      refine itemsL (ys := ys) (B := w3.heap.size) ?_ hrd7 ?_ (by simp)
      · rw [HO.out.1]; exact hown7
      · intro l hl
        obtain ⟨i, _, rfl⟩ := List.mem_map.1 hl
        have := bdL_len HB.out.2 i
        omega
/-- What Pack answers. -/
def APackPost (n : Int) (B R H : List Nat) (w : World) (e : Ending) (w' : World) : Prop :=
  Tch [] w w' ∧ if n < 0 then e = .returned (.tuple #[.slice none 0 0, .int .i64 1]) else ∃ v, e = .returned (.tuple #[v, .int .i64 0]) ∧ RdA [] w' v (enc (Bd.it ⟨n.toNat, B, R, H⟩))
set_option maxHeartbeats 4000000 in
set_option maxRecDepth 100000 in
theorem apack_no (n : Int) (B R H : List Nat) (w : World) (hn : n < 0) : Calls Tryz.prog 8 #[.agg (bodyC n B R H)] w (APackPost n B R H w) := by
  have hS := St.start w
  have HN := Lib.hid hn
  go_enter Tryz.func8, Tryz.ntmps8
  go_wp2_with (first
    | (refine st_box (L := []) hS rfl 25 _ rfl rfl ?_; clear hS; intro w1 b1 hS)
    | (refine st_x (v := .pointer (some ⟨b1, 0, none⟩)) rfl (x_fa _ _ _ rfl rfl (fa_bd0 b1 _)) ?_)
    | (refine st_x (v := .int .i64 n) rfl (x_cell _ _ rfl rfl ((hS.get .head).cell (bodyC_0 _ _ _ _)) int_aggQ) ?_))
  go_ret2
  exact ⟨hS.frame, by rw [if_pos HN.out]; rfl⟩
set_option maxHeartbeats 4000000 in
set_option maxRecDepth 100000 in
theorem apack_yes (n : Int) (B R H : List Nat) (w : World) (hn : ¬ n < 0) (hx : Bd.Ok ⟨n.toNat, B, R, H⟩) : Calls Tryz.prog 8 #[.agg (bodyC n B R H)] w (APackPost n B R H w) := by
  have hS := St.start w
  have HN := Lib.hid (And.intro hn hx)
  clear hx
  go_enter Tryz.func8, Tryz.ntmps8
  go_wp2_with (first
    | (refine st_box (L := []) hS rfl 25 _ rfl rfl ?_; clear hS; intro w1 b1 hS)
    | (refine st_x (v := .pointer (some ⟨b1, 0, none⟩)) rfl (x_fa _ _ _ rfl rfl (fa_bd0 b1 _)) ?_)
    | (refine st_x (v := .int .i64 n) rfl (x_cell _ _ rfl rfl ((hS.get .head).cell (bodyC_0 _ _ _ _)) int_aggQ) ?_)
    | (go_at_call 26; refine (item_bd b1 ⟨n.toNat, B, R, H⟩ _ ⟨by have h := hS.get .head; rw [show ((n.toNat : Nat) : Int) = n by omega]; exact h, HN.out.2⟩).mono ?_; rintro e w2 ⟨hT2, p, m, c, rfl, hit⟩; replace hS := hS.call hT2; clear hT2; have HI := Lib.hid hit; clear hit)
    | (go_at_call 25; refine (pack_any 2 _ _ _ _ _ HI.out).mono ?_; rintro e w3 ⟨hT3, hp⟩; rw [if_pos ⟨by rw [Bd.it_dep]; decide, by have := HN.out.2.len; omega⟩] at hp; obtain ⟨bp, hbp, rfl, hBp⟩ := hp; replace hS := hS.call hT3; clear hT3; have HP := Lib.hid hBp; clear hBp hbp))
  go_ret2
  refine ⟨hS.frame, ?_⟩
  rw [if_neg (by have := HN.out.1; omega)]
  refine ⟨_, rfl, ?_⟩
  have hlt := enc_lt HI.out (by have := HN.out.2.len; omega)
  obtain ⟨l, hl⟩ : ∃ l, l = enc (Bd.it ⟨n.toNat, B, R, H⟩) := ⟨_, rfl⟩
  have hP := HP.out
  rw [← hl] at hP hlt ⊢
  have := RdB.blk hP (fun i hi => by
    rw [List.getD_eq_getElem?_getD, List.getElem?_eq_getElem hi]
    exact hlt _ (List.getElem_mem hi))
  rw [range_getD] at this
  exact this.rdA (by simp)
end Go.Proofs.YtdjhjgockgmbkaaGreatDoor

/- acct.read and acct.Read: the body of an item, of bytes. -/
namespace Go.Proofs.YtdjhjgockgmbkaaGreatDoor
open Go.RowKit
set_option linter.unusedVariables false

theorem build_body0 (w : World) : (Instr.build 25 #[]).run Tryz.prog w = .ok (.agg (bodyC 0 zeros32 zeros32 zeros32)) w := by kernel_rfl
theorem body_zero : (Tryz.prog.info? 25).bind (·.zero) = some (.agg (bodyC 0 zeros32 zeros32 zeros32)) := by kernel_rfl
/-- The cells of a body, or of none. -/
def bdCells : Option Bd → Array Value
  | some x => bodyC (x.n : Int) x.b x.r x.h
  | none => bodyC 0 zeros32 zeros32 zeros32
theorem bdCells_size (r : Option Bd) : (bdCells r).size = 97 := by cases r <;> exact bodyC_size _ _ _ _
theorem bdCells_one (r : Option Bd) : (bdCells r).all (·.oneCell') = true := by cases r <;> exact bodyC_one _ _ _ _
def AReadPost (r : Option Bd) (w : World) (e : Ending) (w' : World) : Prop :=
  Tch [] w w' ∧ e = .returned (.tuple #[.agg (bdCells r), .bool r.isSome])
theorem item_f2 (b : Nat) (w : World) : (Instr.fieldAt 68 (.pointer (some ⟨b, 0, none⟩)) 2).run Tryz.prog w = .ok (.pointer (some ⟨b, 2, none⟩)) w := by kernel_rfl
theorem itemsl_aggQ (w : World) : (isAgg 66).run Tryz.prog w = .ok false w := by kernel_rfl
section
variable {o : Oper} {a : Act} {w : World} {ops : Array Oper} {rest : List Oper} {C : World → Prop} {Q : Act → Prop}
theorem k_lenQ {p : Option Addr} {n c : Nat} (hw : Region.wanted o (yielded ops a.tmps) = true) (x : Operand) (ho : o.op = .call { callee := .builtin .len, args := #[x], argTypes := #[66] }) (hx : a.eval x = .slice p n c)
    (h : KQ ops C Q rest (a.put o.dst (.int .i64 (n : Int)))) : KQ ops C Q (o :: rest) a :=
  k_pure hw (fun w => by unfold execOp; simp [ho, resolve, invoke, builtin, hx, Builtin.len_, run_underlying items_ty, goInt]) h
theorem x_idxI {b off j n c : Nat} (x y : Operand) (ho : o.op = .indexAddr 66 x y) (hx : a.eval x = .slice (some ⟨b, off, none⟩) n c) (hy : a.eval y = .int .i64 (j : Int)) (hj : j < n) : (execOp a.eval o).run Tryz.prog w = .ok (.value (.pointer (some ⟨b, off + j * 3, none⟩))) w := by
  have hadd : (⟨b, off, none⟩ : Addr).add (j * 3) = ⟨b, off + j * 3, none⟩ := by unfold Addr.add; split <;> simp_all
  unfold execOp
  simp [ho, hx, hy, Instr.indexAt, run_underlying items_ty, Instr.sureAddr, asIntOf, sizeOf_one item_size, hj, hadd]
theorem x_item {b o' : Nat} {z0 zb zl : Value} (x : Operand) (ho : o.op = .load 68 x) (hx : a.eval x = .pointer (some ⟨b, o', none⟩)) (h0 : w.cell? ⟨b, o', none⟩ = some z0) (h1 : w.cell? ⟨b, o' + 1, none⟩ = some zb) (h2 : w.cell? ⟨b, o' + 2, none⟩ = some zl) : (execOp a.eval o).run Tryz.prog w = .ok (.value (.agg #[z0, zb, zl])) w := by
  unfold execOp
  simp only [ho, hx, Sem.run_bind, item_load h0 h1 h2, Result.andThen_ok, Sem.run_pure]
end
set_option maxHeartbeats 2000000 in
set_option maxRecDepth 100000 in
theorem aread_str (vb vl : Value) (w : World) : Calls Tryz.prog 33 #[.agg #[.bool false, vb, vl]] w (AReadPost none w) := by
  obtain ⟨f0, f1, f2, f3, hty, _⟩ := body_ty
  have hS := St.start w
  have kb := build_body0
  go_enter Tryz.func33, Tryz.ntmps33
  go_upto_region 3 with (first
    | (refine st_box (L := []) hS rfl 68 _ rfl rfl ?_; clear hS; intro w1 b1 hS)
    | (refine st_new (L := [(b1, 68, #[.bool false, vb, vl])]) hS rfl 25 rfl body_zero ?_; clear hS; intro w2 b2 hS)
    | (refine st_new (L := [(b2, 25, bodyC 0 zeros32 zeros32 zeros32), (b1, 68, #[.bool false, vb, vl])]) hS rfl 25 rfl body_zero ?_; clear hS; intro w4 b4 hS)
    | (go_at_call 59; refine (parts_any b4 _).mono ?_; rintro e w5 ⟨rfl, hT5⟩; replace hS := hS.call hT5; clear hT5)
    | (refine st_new (L := [(b4, 25, bodyC 0 zeros32 zeros32 zeros32), (b2, 25, bodyC 0 zeros32 zeros32 zeros32), (b1, 68, #[.bool false, vb, vl])]) hS rfl 121 rfl parts_zero ?_; clear hS; intro w6 b6 hS)
    | (refine st_store (b := b6) (c' := partsC b4) hS rfl 121 _ _ rfl rfl rfl .head parts_size rfl rfl (by simp [partsC, Value.oneCell']) ?_; clear hS; intro w7 hS))
  refine k_seq (C := fun w' => w' = w7) rfl ?_
  refine k_fld rfl _ _ _ rfl rfl (item_f0 _) ?_; try simp only [Act.put, List.setIfInBounds_toArray, List.set_cons_zero, List.set_cons_succ]
  refine k_cellC rfl _ _ rfl rfl (by rintro w' rfl; exact (hS.get (.tail (.tail (.tail .head)))).cell (j := 0) rfl) bool_aggN ?_; try simp only [Act.put, List.setIfInBounds_toArray, List.set_cons_zero, List.set_cons_succ]
  refine k_not rfl _ _ rfl rfl ?_; try simp only [Act.put, List.setIfInBounds_toArray, List.set_cons_zero, List.set_cons_succ, Bool.not_false]
  refine k_boolm rfl _ rfl rfl ?_; try simp only [Act.put, List.setIfInBounds_toArray, List.set_cons_zero, List.set_cons_succ]
  refine k_skip rfl rfl rfl rfl rfl ?_; try simp only [Act.put, List.setIfInBounds_toArray, List.set_cons_zero, List.set_cons_succ]
  refine k_skip rfl rfl rfl rfl rfl ?_; try simp only [Act.put, List.setIfInBounds_toArray, List.set_cons_zero, List.set_cons_succ]
  refine k_skip rfl rfl rfl rfl rfl ?_; try simp only [Act.put, List.setIfInBounds_toArray, List.set_cons_zero, List.set_cons_succ]
  refine k_skip rfl rfl rfl rfl rfl ?_; try simp only [Act.put, List.setIfInBounds_toArray, List.set_cons_zero, List.set_cons_succ]
  refine k_pickT rfl _ _ _ rfl rfl rfl ?_; try simp only [Act.put, List.setIfInBounds_toArray, List.set_cons_zero, List.set_cons_succ]
  refine k_end ?_
  rintro w8 rfl
  go_wp2_with (first
    | (refine st_store (b := b2) (c' := bodyC 0 zeros32 zeros32 zeros32) hS rfl 25 _ _ rfl rfl rfl (.tail (.tail .head)) body_size (bodyC_size _ _ _ _) (bodyC_size _ _ _ _) (bodyC_one _ _ _ _) ?_; clear hS; intro w9 hS))
  exact post_cell_one 2 3 25 rfl rfl rfl rfl (hS.get (.tail (.tail .head))) hty rfl body_size (bodyC_size _ _ _ _) ⟨hS.frame, rfl⟩
set_option maxHeartbeats 2000000 in
set_option maxRecDepth 100000 in
theorem aread_len (vb : Value) (p : Option Addr) (n c : Nat) (hn : n ≠ 4) (w : World) : Calls Tryz.prog 33 #[.agg #[.bool true, vb, .slice p n c]] w (AReadPost none w) := by
  obtain ⟨f0, f1, f2, f3, hty, _⟩ := body_ty
  have hS := St.start w
  have kb := build_body0
  have HN := Lib.hid (show ((n : Int) != 4) = true by simp; omega)
  clear hn
  go_enter Tryz.func33, Tryz.ntmps33
  go_upto_region 3 with (first
    | (refine st_box (L := []) hS rfl 68 _ rfl rfl ?_; clear hS; intro w1 b1 hS)
    | (refine st_new (L := [(b1, 68, #[.bool true, vb, .slice p n c])]) hS rfl 25 rfl body_zero ?_; clear hS; intro w2 b2 hS)
    | (refine st_new (L := [(b2, 25, bodyC 0 zeros32 zeros32 zeros32), (b1, 68, #[.bool true, vb, .slice p n c])]) hS rfl 25 rfl body_zero ?_; clear hS; intro w4 b4 hS)
    | (go_at_call 59; refine (parts_any b4 _).mono ?_; rintro e w5 ⟨rfl, hT5⟩; replace hS := hS.call hT5; clear hT5)
    | (refine st_new (L := [(b4, 25, bodyC 0 zeros32 zeros32 zeros32), (b2, 25, bodyC 0 zeros32 zeros32 zeros32), (b1, 68, #[.bool true, vb, .slice p n c])]) hS rfl 121 rfl parts_zero ?_; clear hS; intro w6 b6 hS)
    | (refine st_store (b := b6) (c' := partsC b4) hS rfl 121 _ _ rfl rfl rfl .head parts_size rfl rfl (by simp [partsC, Value.oneCell']) ?_; clear hS; intro w7 hS))
  refine k_seq (C := fun w' => w' = w7) rfl ?_
  refine k_fld rfl _ _ _ rfl rfl (item_f0 _) ?_; try simp only [Act.put, List.setIfInBounds_toArray, List.set_cons_zero, List.set_cons_succ]
  refine k_cellC rfl _ _ rfl rfl (by rintro w' rfl; exact (hS.get (.tail (.tail (.tail .head)))).cell (j := 0) rfl) bool_aggN ?_; try simp only [Act.put, List.setIfInBounds_toArray, List.set_cons_zero, List.set_cons_succ]
  refine k_not rfl _ _ rfl rfl ?_; try simp only [Act.put, List.setIfInBounds_toArray, List.set_cons_zero, List.set_cons_succ, Bool.not_true]
  refine k_boolm rfl _ rfl rfl ?_; try simp only [Act.put, List.setIfInBounds_toArray, List.set_cons_zero, List.set_cons_succ]
  refine k_fld rfl _ _ _ rfl rfl (item_f2 _) ?_; try simp only [Act.put, List.setIfInBounds_toArray, List.set_cons_zero, List.set_cons_succ]
  refine k_cellC rfl _ _ rfl rfl (by rintro w' rfl; exact (hS.get (.tail (.tail (.tail .head)))).cell (j := 2) rfl) itemsl_aggQ ?_; try simp only [Act.put, List.setIfInBounds_toArray, List.set_cons_zero, List.set_cons_succ]
  refine k_lenQ rfl _ rfl rfl ?_; try simp only [Act.put, List.setIfInBounds_toArray, List.set_cons_zero, List.set_cons_succ]
  refine k_neqs (t := true) rfl _ _ _ rfl rfl rfl HN.out ?_; try simp only [Act.put, List.setIfInBounds_toArray, List.set_cons_zero, List.set_cons_succ]
  refine k_pickF rfl _ _ _ rfl rfl rfl ?_; try simp only [Act.put, List.setIfInBounds_toArray, List.set_cons_zero, List.set_cons_succ]
  refine k_end ?_
  rintro w8 rfl
  go_wp2_with (first
    | (refine st_store (b := b2) (c' := bodyC 0 zeros32 zeros32 zeros32) hS rfl 25 _ _ rfl rfl rfl (.tail (.tail .head)) body_size (bodyC_size _ _ _ _) (bodyC_size _ _ _ _) (bodyC_one _ _ _ _) ?_; clear hS; intro w9 hS))
  exact post_cell_one 2 3 25 rfl rfl rfl rfl (hS.get (.tail (.tail .head))) hty rfl body_size (bodyC_size _ _ _ _) ⟨hS.frame, rfl⟩
/-- What holds of the fields so far. -/
def GoodB (l : List It) (k : Nat) (n : Int) (B R H : List Nat) : Prop :=
  (1 ≤ k → ∃ m : Nat, intOfN (l.getD 0 (.str [])) = some m ∧ n = (m : Int)) ∧ (2 ≤ k → wordOf (l.getD 1 (.str [])) = some B) ∧ (3 ≤ k → hashOf (l.getD 2 (.str [])) = some R) ∧ (4 ≤ k → hashOf (l.getD 3 (.str [])) = some H)
theorem goodB_step {l : List It} {k : Nat} {n : Int} {B R H : List Nat} {c : Array Value} (h : GoodB l k n B R H) (hk : k < 4) (hr : fillR k n B R H (l.getD k (.str [])) = some c) : ∃ n' B' R' H', c = bodyC n' B' R' H' ∧ GoodB l (k + 1) n' B' R' H' := by
  obtain ⟨h1, h2, h3, h4⟩ := h
  have hk' : k = 0 ∨ k = 1 ∨ k = 2 ∨ k = 3 := by omega
  rcases hk' with rfl | rfl | rfl | rfl
  · unfold fillR at hr
    obtain ⟨m, hm, rfl⟩ := Option.map_eq_some_iff.1 hr
    exact ⟨_, _, _, _, rfl, fun _ => ⟨m, hm, rfl⟩, fun h => absurd h (by decide), fun h => absurd h (by decide), fun h => absurd h (by decide)⟩
  · unfold fillR at hr
    obtain ⟨m, hm, rfl⟩ := Option.map_eq_some_iff.1 hr
    exact ⟨_, _, _, _, rfl, fun _ => h1 (by decide), fun _ => hm, fun h => absurd h (by decide), fun h => absurd h (by decide)⟩
  · unfold fillR at hr
    obtain ⟨m, hm, rfl⟩ := Option.map_eq_some_iff.1 hr
    exact ⟨_, _, _, _, rfl, fun _ => h1 (by decide), fun _ => h2 (by decide), fun _ => hm, fun h => absurd h (by decide)⟩
  · unfold fillR at hr
    obtain ⟨m, hm, rfl⟩ := Option.map_eq_some_iff.1 hr
    exact ⟨_, _, _, _, rfl, fun _ => h1 (by decide), fun _ => h2 (by decide), fun _ => h3 (by decide), fun _ => hm⟩
theorem hashOf_some {t : It} {W : List Nat} (h : hashOf t = some W) : t = .str W ∧ W.length = 32 := by
  cases t with
  | str l =>
    rw [hashOf_str] at h
    by_cases hl : l.length = 32
    · rw [if_pos hl] at h; cases h; exact ⟨rfl, hl⟩
    · rw [if_neg hl] at h; cases h
  | lst l => cases h
theorem bdOf_good {l : List It} {n : Int} {B R H : List Nat} (hl : l.length = 4) (h : GoodB l 4 n B R H) : ∃ x, bdOf (.lst l) = some x ∧ bodyC n B R H = bdCells (some x) := by
  match l, hl with
  | [i0, i1, i2, i3], _ =>
    obtain ⟨h1, h2, h3, h4⟩ := h
    obtain ⟨m, hm, rfl⟩ := h1 (by decide)
    obtain ⟨rfl, hR⟩ := hashOf_some (h3 (by decide))
    obtain ⟨rfl, hH⟩ := hashOf_some (h4 (by decide))
    have hB := h2 (by decide)
    simp only [List.getD_cons_zero, List.getD_cons_succ] at hm hB
    refine ⟨⟨m, B, R, H⟩, ?_, rfl⟩
    unfold bdOf
    simp only [hm, hB, hR, hH, and_self, if_true]
theorem bdOf_bad {l : List It} {k : Nat} {n : Int} {B R H : List Nat} (hl : l.length = 4) (hk : k < 4) (hr : fillR k n B R H (l.getD k (.str [])) = none) : bdOf (.lst l) = none := by
  match l, hl with
  | [i0, i1, i2, i3], _ =>
    cases hb : bdOf (.lst [i0, i1, i2, i3]) with
    | none => rfl
    | some x =>
      exfalso
      unfold bdOf at hb
      split at hb
      · rename_i i j r h' heq
        cases heq
        split at hb
        · rename_i m b hm hj
          split at hb
          · rename_i hh
            have hk' : k = 0 ∨ k = 1 ∨ k = 2 ∨ k = 3 := by omega
            rcases hk' with rfl | rfl | rfl | rfl
            · simp [fillR, hm] at hr
            · simp [fillR, hj] at hr
            · simp [fillR, hashOf_str, hh.1] at hr
            · simp [fillR, hashOf_str, hh.2] at hr
          · cases hb
        · cases hb
      · cases hb
end Go.Proofs.YtdjhjgockgmbkaaGreatDoor
