/- append(v, make([]byte, m)...): noughts behind bytes of the call's own. -/
import Derived.Test.YtjbjjiibldlipaaJ12
namespace Go.Proofs.Ytjbjjiibldlipaa
open Go.RowKit

def zsV (m : Nat) : List Value := nb (List.replicate m 0)
theorem zsV_len (m : Nat) : (zsV m).length = m := by unfold zsV; rw [nb_length, List.length_replicate]
theorem zsV_one (m : Nat) : ∀ u ∈ zsV m, u.oneCell' = true := fun u hu => by obtain ⟨x, _, rfl⟩ := List.mem_map.1 hu; rfl
theorem zeroCells_u8 (m : Nat) : Builtin.zeroCells (Value.int .u8 0).cells m = (zsV m).toArray := by
  apply Array.ext
  · rw [size_zeroCells]; simp [zsV_len, Value.cells]
  · intro i h1 h2
    have h3 : i < m := by rw [size_zeroCells] at h1; simpa [Value.cells] using h1
    simp [Builtin.zeroCells, zsV, nb, Value.cells, Nat.mod_one]
theorem intI_ty : Try.prog.underlying 3 = some (.int .i64) := by kernel_rfl
section
variable (w : World)
theorem wrap_nat (m : Nat) (h : m ≤ 1000000) : IntKind.i64.wrap (m : Int) = (m : Int) := by rw [IntKind.wrap_i64]; omega
theorem run_append_room_z (ty g n cap m : Nat) (cur : Array Value) (hg : w.heap[g]? = some (.cells cur 5 (0, 0))) (hm : 0 < m) (hm2 : m ≤ 1000000)
    (hroom : n + m ≤ cap) (hfit : n + m ≤ cur.size) :
    (Builtin.append_ #[22, 3] ty #[.slice (some ⟨g, 0, none⟩) n cap, .int .i64 (m : Int)]).run Try.prog w =
      .ok (.slice (some ⟨g, 0, none⟩) (n + m) cap) (w.setRow g (cur.toList.take n ++ zsV m ++ cur.toList.drop (n + m)).toArray) := by
  obtain ⟨i, hi, hz, hs, hb⟩ := info_parts A_info
  have hst := run_storeCells_at Try.prog g n 5 (zsV m) 0 cur w hg (by simpa [zsV_len] using hfit) (zsV_one m)
  simp only [Nat.add_zero, zsV_len] at hst
  have h0 : ¬ ((m : Int) < 0) := by omega
  have h1 : ¬ (281474976710656 < (m : Int)) := by omega
  have h2 : ¬ m = 0 := by omega
  have hw := wrap_nat m hm2
  simp [Builtin.append_, run_underlying bytes_ty, run_underlying intI_ty, sizeOf, typeInfo, hi, hz, hs, hb, zeroValue, asInt, asIntOf, hw, h0, h1, h2, hroom, zeroCells_u8, Addr.add_lit, hst]
theorem run_append_grow_z (ty n cap m : Nat) (b : Addr) (olds : List Value) (hlo : olds.length = n) (holds : ∀ j v, olds[j]? = some v → w.cell? (b.add j) = some v) (hm : 0 < m) (hm2 : m ≤ 1000000) (hn : n ≤ 1000000)
    (hg : cap < n + m) :
    (Builtin.append_ #[22, 3] ty #[.slice (some b) n cap, .int .i64 (m : Int)]).run Try.prog w =
      .ok (.slice (some ⟨w.heap.size, 0, none⟩) (n + m) (grownCap w (n + m) cap 5))
        (w.drew.alloc (.cells (olds.toArray ++ (zsV m).toArray ++ Builtin.zeroCells (Value.int .u8 0).cells (grownCap w (n + m) cap 5 - (n + m))) 5)) := by
  obtain ⟨i, hi, hz, hs, hb⟩ := info_parts A_info
  have h0 : ¬ ((m : Int) < 0) := by omega
  have h1 : ¬ (281474976710656 < (m : Int)) := by omega
  have h2 : ¬ m = 0 := by omega
  have hw := wrap_nat m hm2
  have hnr : ¬ (n + m ≤ cap) := by omega
  have h63' : ¬ (9223372036854775807 < ((n : Int) + (m : Int))) := by omega
  have hgf := growslice_fits (need := n + m) (old := cap) (bytes := 1) (by omega) (by omega)
  have h48' : ¬ (281474976710656 < Builtin.nextslicecap (n + m) cap) := by rw [Nat.mul_one] at hgf; omega
  have hfo := run_firstCells_some (P := Try.prog) w.drew 1 n b n cap olds (by rw [hlo, Nat.mul_one]) (by simpa using holds)
  simp [Builtin.append_, run_underlying bytes_ty, run_underlying intI_ty, sizeOf, typeInfo, hi, hz, hs, hb, zeroValue, asInt, asIntOf, hw, h0, h1, h2, hnr, h63', h48', Question.forced, hfo, newRow, grownCap, zeroCells_u8]
theorem run_append_nil_z (ty m : Nat) (hm : 0 < m) (hm2 : m ≤ 1000000) :
    (Builtin.append_ #[22, 3] ty #[.slice none 0 0, .int .i64 (m : Int)]).run Try.prog w =
      .ok (.slice (some ⟨w.heap.size, 0, none⟩) m (grownCap w m 0 5))
        (w.drew.alloc (.cells ((zsV m).toArray ++ Builtin.zeroCells (Value.int .u8 0).cells (grownCap w m 0 5 - m)) 5)) := by
  obtain ⟨i, hi, hz, hs, hb⟩ := info_parts A_info
  have h0 : ¬ ((m : Int) < 0) := by omega
  have h1 : ¬ (281474976710656 < (m : Int)) := by omega
  have h2 : ¬ m = 0 := by omega
  have hw := wrap_nat m hm2
  have h63' : ¬ (9223372036854775807 < (m : Int)) := by omega
  have h48' : ¬ (281474976710656 < Builtin.nextslicecap m 0) := by rw [nextslicecap_zero hm]; omega
  simp [Builtin.append_, run_underlying bytes_ty, run_underlying intI_ty, sizeOf, typeInfo, hi, hz, hs, hb, zeroValue, asInt, asIntOf, hw, h0, h1, h2, h63', h48', Question.forced, run_firstCells_none, newRow, grownCap, zeroCells_u8]
theorem own_append_z (base ty : Nat) (v : Value) (n m : Nat) (xs : List Value) (hown : w.ownsRow base 5 1 v n xs) (hm : 0 < m) (hm2 : m ≤ 1000000) (hn : n ≤ 1000000) (hbase : base ≤ w.heap.size) :
    ∃ v' w', (Builtin.append_ #[22, 3] ty #[v, .int .i64 (m : Int)]).run Try.prog w = .ok v' w' ∧ w'.ownsRow base 5 1 v' (n + m) (xs ++ zsV m) ∧ w.grownBy w' v.ownBlock := by
  have hxl : xs.length = n := by simpa using hown.1
  have hlen : (xs ++ zsV m).length = (n + m) * 1 := by rw [List.length_append, hxl, zsV_len, Nat.mul_one]
  have h63 : n + m ≤ maxLen := by unfold maxLen; omega
  have grown : ∀ (old : Nat), old < n + m → ∀ (row : Option Nat),
      (w.drew.alloc (.cells (xs.toArray ++ (zsV m).toArray ++ Builtin.zeroCells (Value.int .u8 0).cells (grownCap w (n + m) old 5 - (n + m))) 5)).ownsRow base 5 1
        (.slice (some ⟨w.heap.size, 0, none⟩) (n + m) (grownCap w (n + m) old 5)) (n + m) (xs ++ zsV m) ∧
      w.grownBy (w.drew.alloc (.cells (xs.toArray ++ (zsV m).toArray ++ Builtin.zeroCells (Value.int .u8 0).cells (grownCap w (n + m) old 5 - (n + m))) 5)) row := by
    intro old ho row
    have hge := grownCap_ge w (n + m) old 5
    have hcm : grownCap w (n + m) old 5 ≤ maxLen := grownCap_le_maxLen w (n + m) old 5 h63
    refine ⟨⟨hlen, .inr ⟨w.heap.size, _, _, rfl, hbase, heap_alloc_new w.drew _, hge, hcm, ?_, ?_⟩⟩, ⟨rfl, rfl, rfl, by simp, fun k hk _ => Below.heap_alloc w.drew _ k hk⟩⟩
    · have hz1 : (Value.int IntKind.u8 0).cells.size = 1 := rfl
      simp only [Array.size_append, List.size_toArray, size_zeroCells, hz1, hxl, zsV_len]
      omega
    · simp only [Array.toList_append, List.append_assoc]
      rw [← List.append_assoc, ← hlen]
      exact List.take_left
  rcases hown.2 with ⟨rfl, rfl⟩ | ⟨g, cap, cur, rfl, hbg, hg, hnc, hcm, hcs, htake⟩
  · have hx : xs = [] := List.eq_nil_of_length_eq_zero hxl
    subst hx
    have hr := run_append_nil_z w ty m hm hm2
    have hgr := grown 0 (by omega) (Value.ownBlock (.slice none 0 0))
    simp only [Nat.zero_add, List.nil_append, Array.empty_append] at hgr ⊢
    exact ⟨_, _, hr, hgr.1, hgr.2⟩
  · by_cases hroom : n + m ≤ cap
    · have hcs' : cur.size = cap := by simpa using hcs
      have hr := run_append_room_z w ty g n cap m cur hg hm hm2 hroom (by omega)
      refine ⟨_, _, hr, ⟨hlen, .inr ⟨g, cap, _, rfl, hbg, setRow_heap w g cur _ 5 _ hg, hroom, hcm, ?_, ?_⟩⟩, ⟨rfl, rfl, rfl, by simp, fun k _ hk => setRow_other w g k _ (fun e => hk (by simp [Value.ownBlock, e]))⟩⟩
      · simp only [List.size_toArray, List.length_append, List.length_take, List.length_drop, Array.length_toList, zsV_len]
        omega
      · have ht' : cur.toList.take n = xs := by simpa using htake
        rw [ht', ← hlen]
        exact List.take_left
    · have holds : ∀ j u, xs[j]? = some u → w.cell? ((⟨g, 0, none⟩ : Addr).add j) = some u := hown.cells (g := g) rfl
      have hr := run_append_grow_z w ty n cap m ⟨g, 0, none⟩ xs hxl holds hm hm2 hn (by omega)
      have hgr := grown cap (by omega) (Value.ownBlock (.slice (some ⟨g, 0, none⟩) n cap))
      exact ⟨_, _, hr, hgr.1, hgr.2⟩
end
/-- append(v, make([]byte, m)...), v the call's own. -/
theorem st_appZ {ops : Array Oper} {rest : List Oper} {o : Oper} {a : Act} {w0 w : World} {Q : Exit → Act → World → Prop} {v : Value} {l : List Nat} {m : Nat} (hgd : o.guard = none) (s x : Operand)
    (ho : o.op = .call { callee := .builtin .append, args := #[s, x], argTypes := #[22, 3] }) (hs : a.eval s = v) (hx : a.eval x = .int .i64 (m : Int)) (hown : w.ownsRow w0.heap.size 5 1 v l.length (nb l)) (hT : Tch [] w0 w) (hm : 0 < m) (hm2 : m ≤ 1000000) (hl : l.length ≤ 1000000)
    (h : ∀ v' w', w'.ownsRow w0.heap.size 5 1 v' (l ++ List.replicate m 0).length (nb (l ++ List.replicate m 0)) → Tch [] w0 w' → wpList Try.prog ops Q rest (a.put o.dst v') w') : wpList Try.prog ops Q (o :: rest) a w := by
  refine wpList_plain hgd fun K hK => ?_
  obtain ⟨v', w', hr, h2, hgrow⟩ := own_append_z w w0.heap.size o.type v l.length m (nb l) hown hm hm2 hl hT.size
  unfold Oper.wp execOp
  simp only [ho, resolve, invoke, builtin, Sem.run_bind, Sem.run_pure, Result.andThen_ok, List.map_toArray, List.map_cons, List.map_nil, hs, hx, hr]
  refine hK _ _ (h v' w' ?_ ⟨hgrow.os.trans hT.os, hgrow.tape.trans hT.tape, hgrow.output.trans hT.output, Nat.le_trans hT.size hgrow.size, fun k hk _ => (hgrow.block k (Nat.lt_of_lt_of_le hk hT.size) (fun e => ?_)).trans (hT.block k hk (by simp))⟩)
  · have e : nb (l ++ List.replicate m 0) = nb l ++ zsV m := by simp [nb, zsV]
    rw [e, List.length_append, List.length_replicate]; exact h2
  · have := (hown.lt k e.symm).1; omega
section
variable {o : Oper} {a : Act} {ops : Array Oper} {rest : List Oper} {C : World → Prop} {Q : Act → Prop}
theorem k_addE {s t u : ByteArray} (hw : Region.wanted o (yielded ops a.tmps) = true) (ty : TypeId) (x y : Operand) (yt : TypeId) (ho : o.op = .binOp .add ty x y yt) (hx : a.eval x = .string s) (hy : a.eval y = .string t) (hm : s.size + t.size ≤ 100000000) (he : s ++ t = u)
    (h : KQ ops C Q rest (a.put o.dst (.string u))) : KQ ops C Q (o :: rest) a := k_addS hw ty x y yt ho hx hy hm (by rw [he]; exact h)
end
set_option maxHeartbeats 4000000 in
set_option maxRecDepth 100000 in
theorem parts_main (va vb : Value) (A B : List Nat) (w : World) (ha : RdB w va A) (hb : RdB w vb B) (hma : A.length ≤ 500) (hmb : B.length ≤ 500) :
    Calls Try.prog 6 #[va, vb] w fun e w' => e = .returned (.bool true) ∧ Tch [] w w' := by
  have hA : ∀ x ∈ A, x < 256 := ha.choose_spec.choose_spec.2.2.1
  have hB : ∀ x ∈ B, x < 256 := hb.choose_spec.choose_spec.2.2.1
  obtain ⟨X, hX⟩ : ∃ X, X = A ++ List.replicate 33 0 := ⟨_, rfl⟩
  have hXl : X.length = A.length + 33 := by rw [hX, List.length_append, List.length_replicate]
  have hXlt : ∀ x ∈ X, x < 256 := by
    intro x hx
    rw [hX] at hx
    rcases List.mem_append.1 hx with h | h
    · exact hA x h
    · rw [List.eq_of_mem_replicate h]; decide
  have hXB : ∀ x ∈ X ++ B, x < 256 := fun x hx => (List.mem_append.1 hx).elim (hXlt x) (hB x)
  have hparts : prt (X ++ B) = prt X ++ prt B := by rw [hX]; exact prt_parts A.length A 33 B (Nat.le_refl _) (.inl (by decide))
  have hl1 := prt_len X hXlt
  have hl2 := prt_len B hB
  have hl3 := prt_len (X ++ B) hXB
  rw [List.length_append] at hl3
  have hR := fun w1 => aread_any (prt X ++ prt B) w1 (by rw [← hparts]; exact prt_lt _ hXB) (by rw [List.length_append]; omega)
  unfold RdPost2 at hR
  rw [← hparts, rdA_prt _ hXB (by omega), hparts] at hR
  have HR := Lib.hid hR
  have HPX := Lib.hid (fun v w1 (h : RdB w1 v X) => print_any v X w1 h (by omega))
  have HPXB := Lib.hid (fun v w1 (h : RdB w1 v (X ++ B)) => print_any v (X ++ B) w1 h (by rw [List.length_append]; omega))
  have HQ := Lib.hid (fun w1 (h : Tch [] w w1) => rprint_any vb B w1 (hb.tch h (by simp)) (by omega))
  have HPS := Lib.hid (strB_append (prt X) (prt B))
  have HPL := Lib.hid (show (strB (prt X)).size + (strB (prt B)).size ≤ 100000000 by rw [strB_size, strB_size]; omega)
  unfold PrintPost at HPX HPXB HQ
  rw [hparts] at HPXB
  have HA := Lib.hid ha
  have HB := Lib.hid hb
  have HX := Lib.hid hX
  have HXlt := Lib.hid hXlt
  have HXB := Lib.hid hXB
  clear hR hA hB hXlt hXB hl1 hl2 hl3 hparts
  obtain ⟨pa, ca, rfl, _⟩ := ha
  obtain ⟨pb, cb, rfl, _⟩ := hb
  have d1 : ¬ (500 : Int) < (A.length : Int) := by omega
  have d2 : ¬ (500 : Int) < (B.length : Int) := by omega
  have hXl2 : X.length ≤ 600 := by omega
  clear hX hXl
  generalize strB (prt X) = sx at *
  generalize strB (prt B) = sb at *
  generalize strB (prt X ++ prt B) = sxb at *
  go_enter Try.func6, Try.ntmps6
  go_upto_region 2 with (go_at_call 7; refine (alive12 _).mono ?_; rintro e w1 ⟨rfl, hT1⟩)
  have hT1s := hT1.size
  refine k_seq (C := fun w' => Tch [] w w') hT1 ?_
  refine k_val (v := .bool true) rfl _ (.inl rfl) rfl ?_; try simp only [Act.put, List.setIfInBounds_toArray, List.set_cons_zero, List.set_cons_succ]
  refine k_notV (s := true) (t := false) rfl _ _ rfl rfl rfl ?_; try simp only [Act.put, List.setIfInBounds_toArray, List.set_cons_zero, List.set_cons_succ]
  refine k_val (v := .bool false) rfl _ (.inl rfl) rfl ?_; try simp only [Act.put, List.setIfInBounds_toArray, List.set_cons_zero, List.set_cons_succ]
  refine k_val (v := .slice pa A.length ca) rfl _ (.inl rfl) rfl ?_; try simp only [Act.put, List.setIfInBounds_toArray, List.set_cons_zero, List.set_cons_succ]
  refine k_lenSl (p := pa) (n := A.length) (c := ca) rfl _ rfl rfl ?_; try simp only [Act.put, List.setIfInBounds_toArray, List.set_cons_zero, List.set_cons_succ]
  refine j_gtr (m := (A.length : Int)) (n := 500) (t := false) rfl _ _ _ rfl rfl rfl (decide_eq_false (by omega)) ?_; try simp only [Act.put, List.setIfInBounds_toArray, List.set_cons_zero, List.set_cons_succ]
  refine k_pickF (t := false) rfl _ _ _ rfl rfl rfl ?_; try simp only [Act.put, List.setIfInBounds_toArray, List.set_cons_zero, List.set_cons_succ]
  refine k_val (v := .bool false) rfl _ (.inl rfl) rfl ?_; try simp only [Act.put, List.setIfInBounds_toArray, List.set_cons_zero, List.set_cons_succ]
  refine k_val (v := .slice pb B.length cb) rfl _ (.inl rfl) rfl ?_; try simp only [Act.put, List.setIfInBounds_toArray, List.set_cons_zero, List.set_cons_succ]
  refine k_lenSl (p := pb) (n := B.length) (c := cb) rfl _ rfl rfl ?_; try simp only [Act.put, List.setIfInBounds_toArray, List.set_cons_zero, List.set_cons_succ]
  refine j_gtr (m := (B.length : Int)) (n := 500) (t := false) rfl _ _ _ rfl rfl rfl (decide_eq_false (by omega)) ?_; try simp only [Act.put, List.setIfInBounds_toArray, List.set_cons_zero, List.set_cons_succ]
  refine k_pickF (t := false) rfl _ _ _ rfl rfl rfl ?_; try simp only [Act.put, List.setIfInBounds_toArray, List.set_cons_zero, List.set_cons_succ]
  refine k_end ?_
  clear hT1 hT1s
  intro w2 hT2
  go_upto_region 5 with (first
    | (at_builtin; refine st_appB (ty := 5) (w0 := w) (l := []) (m := A) rfl _ _ rfl rfl rfl (own_nil _ _) hT2 (HA.out.tch hT2 (by simp)) (by simp; omega) ?_; intro v3 w3 hown3 hT3)
    | (at_builtin; refine st_appZ (w0 := w) (l := [] ++ A) (m := 33) rfl _ _ rfl rfl rfl hown3 hT3 (by decide) (by decide) (by simp; omega) ?_; intro v4 w4 hown4 hT4))
  rw [List.nil_append, ← HX.out] at hown4
  have hv4 := RdB.own hown4 HXlt.out
  have HV4 := Lib.hid hv4
  obtain ⟨p4, c4, rfl, _⟩ := hv4
  clear hT2
  go_upto_region 6 with (go_at_call 8; refine (HPX.out _ _ HV4.out).mono ?_; rintro e w5 ⟨rfl, hT5⟩)
  have hT6 := hT4.trans hT5
  go_upto_region 7 with (first
    | (at_builtin; refine st_appB (ty := 5) (w0 := w5) (l := []) (m := X) rfl _ _ rfl rfl rfl (own_nil _ _) (Tch.refl _ _) (HV4.out.tch hT5 (by simp)) (by simp; omega) ?_; intro v7 w7 hown7 hT7)
    | (at_builtin; refine st_appB (ty := 5) (w0 := w5) (l := [] ++ X) (m := B) rfl _ _ rfl rfl rfl hown7 hT7 (HB.out.tch (hT6.trans hT7) (by simp)) (by simp; omega) ?_; intro v8 w8 hown8 hT8)
    | (go_at_call 8; refine (HPXB.out _ _ (RdB.own (by rw [List.nil_append] at hown8; exact hown8) HXB.out)).mono ?_; rintro e w9 ⟨rfl, hT9⟩))
  have hT10 := (hT6.trans hT8).trans hT9
  have HV10 := Lib.hid (HV4.out.tch ((hT5.trans hT8).trans hT9) (by simp))
  go_upto_region 8 with (first
    | (go_at_call 10; refine (HQ.out _ hT10).mono ?_; rintro e w11 ⟨rfl, hT11⟩)
    | (refine st_addS (s := sx) (t := sb) rfl _ _ _ _ rfl rfl rfl HPL.out ?_; rw [HPS.out])
    | (go_at_call 9; refine (HR.out _).mono ?_; rintro e w12 ⟨hT12, v12, rfl, hv12⟩; have T12 := (hT10.trans hT11).trans hT12; have HV12 := Lib.hid hv12; clear hv12; have HVX := Lib.hid (HV10.out.tch (hT11.trans hT12) (by simp))))
  refine k_seq (C := fun w' => Tch [] w12 w') (Tch.refl [] w12) ?_
  refine k_val (v := .string sxb) rfl _ (.inl rfl) rfl ?_; try simp only [Act.put, List.setIfInBounds_toArray, List.set_cons_zero, List.set_cons_succ]
  refine k_val (v := .string sx) rfl _ (.inl rfl) rfl ?_; try simp only [Act.put, List.setIfInBounds_toArray, List.set_cons_zero, List.set_cons_succ]
  refine k_val (v := .slice pb B.length cb) rfl _ (.inl rfl) rfl ?_; try simp only [Act.put, List.setIfInBounds_toArray, List.set_cons_zero, List.set_cons_succ]
  refine k_callC1 (v1 := .slice pb B.length cb) rfl rfl rfl Try.call10 (fun w' h => (HQ.out w' (T12.trans h)).mono fun e w'' h2 => ⟨h2.1, h.trans h2.2⟩) ?_; try simp only [Act.put, List.setIfInBounds_toArray, List.set_cons_zero, List.set_cons_succ]
  refine k_addE (s := sx) (t := sb) (u := sxb) rfl _ _ _ _ rfl rfl rfl HPL.out HPS.out ?_; try simp only [Act.put, List.setIfInBounds_toArray, List.set_cons_zero, List.set_cons_succ]
  refine k_strS (s := sxb) rfl _ _ _ rfl rfl rfl ?_; try simp only [Act.put, List.setIfInBounds_toArray, List.set_cons_zero, List.set_cons_succ]
  refine k_val (v := .bool true) rfl _ (.inl rfl) rfl ?_; try simp only [Act.put, List.setIfInBounds_toArray, List.set_cons_zero, List.set_cons_succ]
  refine k_val (v := .int .i64 0) rfl _ (.inl rfl) rfl ?_; try simp only [Act.put, List.setIfInBounds_toArray, List.set_cons_zero, List.set_cons_succ]
  refine k_callC1 (v1 := .int .i64 0) rfl rfl rfl Try.call11 (fun w' h => (num12_any _ w').mono fun e w'' h2 => ⟨h2.1, h2.2 ▸ h⟩) ?_; try simp only [Act.put, List.setIfInBounds_toArray, List.set_cons_zero, List.set_cons_succ]
  refine k_ints (t := true) rfl _ _ _ rfl rfl rfl (beq_self_eq_true _) ?_; try simp only [Act.put, List.setIfInBounds_toArray, List.set_cons_zero, List.set_cons_succ]
  refine k_pickT (t := true) rfl _ _ _ rfl rfl rfl ?_; try simp only [Act.put, List.setIfInBounds_toArray, List.set_cons_zero, List.set_cons_succ]
  refine k_val (v := .bool true) rfl _ (.inl rfl) rfl ?_; try simp only [Act.put, List.setIfInBounds_toArray, List.set_cons_zero, List.set_cons_succ]
  refine k_val (v := v12) rfl _ (.inl rfl) rfl ?_; try simp only [Act.put, List.setIfInBounds_toArray, List.set_cons_zero, List.set_cons_succ]
  refine k_conv (v := v12) (l := X ++ B) rfl _ rfl rfl (fun w' h => HV12.out.tch h (by simp)) ?_; try simp only [Act.put, List.setIfInBounds_toArray, List.set_cons_zero, List.set_cons_succ]
  refine k_val (v := .slice p4 X.length c4) rfl _ (.inl rfl) rfl ?_; try simp only [Act.put, List.setIfInBounds_toArray, List.set_cons_zero, List.set_cons_succ]
  refine k_conv (v := .slice p4 X.length c4) (l := X) rfl _ rfl rfl (fun w' h => HVX.out.tch h (by simp)) ?_; try simp only [Act.put, List.setIfInBounds_toArray, List.set_cons_zero, List.set_cons_succ]
  refine k_val (v := .slice pb B.length cb) rfl _ (.inl rfl) rfl ?_; try simp only [Act.put, List.setIfInBounds_toArray, List.set_cons_zero, List.set_cons_succ]
  refine k_conv (v := .slice pb B.length cb) (l := B) rfl _ rfl rfl (fun w' h => HB.out.tch (T12.trans h) (by simp)) ?_; try simp only [Act.put, List.setIfInBounds_toArray, List.set_cons_zero, List.set_cons_succ]
  refine k_addL (l := X) (m := B) rfl _ _ _ _ rfl rfl rfl rfl (by omega) ?_; try simp only [Act.put, List.setIfInBounds_toArray, List.set_cons_zero, List.set_cons_succ]
  refine k_strS (s := strB (X ++ B)) rfl _ _ _ rfl rfl rfl ?_; try simp only [Act.put, List.setIfInBounds_toArray, List.set_cons_zero, List.set_cons_succ]
  refine k_pickT (t := true) rfl _ _ _ rfl rfl rfl ?_; try simp only [Act.put, List.setIfInBounds_toArray, List.set_cons_zero, List.set_cons_succ]
  refine k_val (v := .bool true) rfl _ (.inr rfl) rfl ?_; try simp only [Act.put, List.setIfInBounds_toArray, List.set_cons_zero, List.set_cons_succ]
  refine k_end ?_
  intro w19 hT19
  go_wp2
  go_ret
  exact ⟨rfl, T12.trans hT19⟩
set_option maxHeartbeats 1000000 in
set_option maxRecDepth 100000 in
theorem parts_walk (va vb : Value) (A B : List Nat) (w : World) (ha : RdB w va A) (hb : RdB w vb B) :
    Calls Try.prog 6 #[va, vb] w fun e w' => e = .returned (.bool true) ∧ Tch [] w w' := by
  by_cases h1 : A.length ≤ 500
  · by_cases h2 : B.length ≤ 500
    · exact parts_main va vb A B w ha hb h1 h2
    · obtain ⟨pa, ca, rfl, _⟩ := ha
      obtain ⟨pb, cb, rfl, _⟩ := hb
      go_enter Try.func6, Try.ntmps6
      go_upto_region 2 with (go_at_call 7; refine (alive12 _).mono ?_; rintro e w1 ⟨rfl, hT1⟩)
      refine k_seq (C := fun w' => Tch [] w w') hT1 ?_
      refine k_val (v := .bool true) rfl _ (.inl rfl) rfl ?_; try simp only [Act.put, List.setIfInBounds_toArray, List.set_cons_zero, List.set_cons_succ]
      refine k_notV (s := true) (t := false) rfl _ _ rfl rfl rfl ?_; try simp only [Act.put, List.setIfInBounds_toArray, List.set_cons_zero, List.set_cons_succ]
      refine k_val (v := .bool false) rfl _ (.inl rfl) rfl ?_; try simp only [Act.put, List.setIfInBounds_toArray, List.set_cons_zero, List.set_cons_succ]
      refine k_val (v := .slice pa A.length ca) rfl _ (.inl rfl) rfl ?_; try simp only [Act.put, List.setIfInBounds_toArray, List.set_cons_zero, List.set_cons_succ]
      refine k_lenSl (p := pa) (n := A.length) (c := ca) rfl _ rfl rfl ?_; try simp only [Act.put, List.setIfInBounds_toArray, List.set_cons_zero, List.set_cons_succ]
      refine j_gtr (m := (A.length : Int)) (n := 500) (t := false) rfl _ _ _ rfl rfl rfl (decide_eq_false (by omega)) ?_; try simp only [Act.put, List.setIfInBounds_toArray, List.set_cons_zero, List.set_cons_succ]
      refine k_pickF (t := false) rfl _ _ _ rfl rfl rfl ?_; try simp only [Act.put, List.setIfInBounds_toArray, List.set_cons_zero, List.set_cons_succ]
      refine k_val (v := .bool false) rfl _ (.inl rfl) rfl ?_; try simp only [Act.put, List.setIfInBounds_toArray, List.set_cons_zero, List.set_cons_succ]
      refine k_val (v := .slice pb B.length cb) rfl _ (.inl rfl) rfl ?_; try simp only [Act.put, List.setIfInBounds_toArray, List.set_cons_zero, List.set_cons_succ]
      refine k_lenSl (p := pb) (n := B.length) (c := cb) rfl _ rfl rfl ?_; try simp only [Act.put, List.setIfInBounds_toArray, List.set_cons_zero, List.set_cons_succ]
      refine j_gtr (m := (B.length : Int)) (n := 500) (t := true) rfl _ _ _ rfl rfl rfl (decide_eq_true (by omega)) ?_; try simp only [Act.put, List.setIfInBounds_toArray, List.set_cons_zero, List.set_cons_succ]
      refine k_pickF (t := true) rfl _ _ _ rfl rfl rfl ?_; try simp only [Act.put, List.setIfInBounds_toArray, List.set_cons_zero, List.set_cons_succ]
      refine k_end ?_
      intro w2 hT2
      go_wp2
      go_ret
      exact ⟨rfl, hT2⟩
  · obtain ⟨pa, ca, rfl, _⟩ := ha
    obtain ⟨pb, cb, rfl, _⟩ := hb
    go_enter Try.func6, Try.ntmps6
    go_upto_region 2 with (go_at_call 7; refine (alive12 _).mono ?_; rintro e w1 ⟨rfl, hT1⟩)
    refine k_seq (C := fun w' => Tch [] w w') hT1 ?_
    refine k_val (v := .bool true) rfl _ (.inl rfl) rfl ?_; try simp only [Act.put, List.setIfInBounds_toArray, List.set_cons_zero, List.set_cons_succ]
    refine k_notV (s := true) (t := false) rfl _ _ rfl rfl rfl ?_; try simp only [Act.put, List.setIfInBounds_toArray, List.set_cons_zero, List.set_cons_succ]
    refine k_val (v := .bool false) rfl _ (.inl rfl) rfl ?_; try simp only [Act.put, List.setIfInBounds_toArray, List.set_cons_zero, List.set_cons_succ]
    refine k_val (v := .slice pa A.length ca) rfl _ (.inl rfl) rfl ?_; try simp only [Act.put, List.setIfInBounds_toArray, List.set_cons_zero, List.set_cons_succ]
    refine k_lenSl (p := pa) (n := A.length) (c := ca) rfl _ rfl rfl ?_; try simp only [Act.put, List.setIfInBounds_toArray, List.set_cons_zero, List.set_cons_succ]
    refine j_gtr (m := (A.length : Int)) (n := 500) (t := true) rfl _ _ _ rfl rfl rfl (decide_eq_true (by omega)) ?_; try simp only [Act.put, List.setIfInBounds_toArray, List.set_cons_zero, List.set_cons_succ]
    refine k_pickF (t := true) rfl _ _ _ rfl rfl rfl ?_; try simp only [Act.put, List.setIfInBounds_toArray, List.set_cons_zero, List.set_cons_succ]
    refine k_val (v := .bool true) rfl _ (.inl rfl) rfl ?_; try simp only [Act.put, List.setIfInBounds_toArray, List.set_cons_zero, List.set_cons_succ]
    refine k_skip rfl rfl rfl rfl rfl ?_; try simp only [Act.put, List.setIfInBounds_toArray, List.set_cons_zero, List.set_cons_succ]
    refine k_skip rfl rfl rfl rfl rfl ?_; try simp only [Act.put, List.setIfInBounds_toArray, List.set_cons_zero, List.set_cons_succ]
    refine k_skip rfl rfl rfl rfl rfl ?_; try simp only [Act.put, List.setIfInBounds_toArray, List.set_cons_zero, List.set_cons_succ]
    refine k_pickT (t := true) rfl _ _ _ rfl rfl rfl ?_; try simp only [Act.put, List.setIfInBounds_toArray, List.set_cons_zero, List.set_cons_succ]
    refine k_end ?_
    intro w2 hT2
    go_wp2
    go_ret
    exact ⟨rfl, hT2⟩
end Go.Proofs.Ytjbjjiibldlipaa
