/- Memories and stacks: words as lists of bytes, noughts appended, a slice stored back; (*Mem).Grow, the program's. -/
import Derived.Test.YtklpcppdjcedpaaI1
import Derived.Maps.AppendAt
set_option linter.unusedVariables false
set_option linter.unusedSimpArgs false
namespace Go.Proofs.Ytklpcppdjcedpaa
open Go.RowKit
set_option maxRecDepth 100000
set_option maxHeartbeats 1000000

/-- 32 bytes. -/
def Wd (W : List Nat) : Prop := W.length = 32 ∧ ∀ x ∈ W, x < 256
def zs32 : List Nat := List.replicate 32 0
theorem zs32_ok : Wd zs32 := ⟨by decide, by decide⟩
/-- The word of an int. -/
def wof (n : Int) : List Nat := (List.range 32).map (byt (wint n))
theorem wof_ok (n : Int) : Wd (wof n) := ⟨by simp [wof], fun x hx => by
  obtain ⟨i, _, rfl⟩ := List.mem_map.1 hx
  exact byt_lt _ _⟩
theorem wv_wof (n : Int) : wv (wof n) = wcells (wint n) := bc_congr fun i hi => by
  unfold wof
  rw [List.getD_eq_getElem?_getD, List.getElem?_map, List.getElem?_range hi]
  rfl
theorem bval_wof (n : Int) : bval (wof n) = wint n := by
  have h := wv_byt (wof_ok n).1 (wof_ok n).2
  rw [wv_wof] at h
  exact (wcells_inj (wint_lt n) (by have := bval_top (wof_ok n).1 (wof_ok n).2; exact this) h).symm
theorem wInt_wof (n : Nat) (h : n < 9223372036854775808) : wInt (wof (n : Int)) = some n := by
  unfold wInt
  rw [bval_wof, wint_nat (by unfold M256; omega), if_pos (show n < 2 ^ 63 from h)]
theorem wof_zero : wof 0 = zs32 := by decide
theorem wof_ne {n : Nat} (h : n < 9223372036854775808) (h0 : n ≠ 0) : wof (n : Int) ≠ zs32 := by
  intro e
  have h1 := wInt_wof n h
  rw [e] at h1
  have h2 : wInt zs32 = some 0 := by decide
  rw [h2] at h1
  exact h0 (Option.some.inj h1).symm
theorem bc_inj {n : Nat} {f g : Nat → Nat} (h : bc n f = bc n g) : ∀ i, i < n → f i = g i := by
  intro i hi
  have e := congrArg (fun c : Array Value => c[i]?) h
  simp only [bc_get hi] at e
  have := Value.int.inj (Option.some.inj e)
  omega
theorem wv_inj {V U : List Nat} (hV : V.length = 32) (hU : U.length = 32) (h : wv V = wv U) : V = U := by
  apply List.ext_getElem?
  intro i
  by_cases hi : i < 32
  · have := bc_inj h i hi
    simp only [List.getD_eq_getElem?_getD] at this
    rw [List.getElem?_eq_getElem (by omega), List.getElem?_eq_getElem (by omega)] at this ⊢
    simpa using this
  · rw [List.getElem?_eq_none (by omega), List.getElem?_eq_none (by omega)]
def bytesOfI (n : Nat) (f : Nat → Nat) : List UInt8 := (List.range n).map fun i => UInt8.ofNat (f i)
theorem bc_bytesI (n : Nat) (f : Nat → Nat) (h : ∀ i, i < n → f i < 256) : bc n f = ((bytesOfI n f).map Extern.Stop.cell).toArray := by
  unfold bytesOfI
  rw [List.map_map]
  show ((List.range n).map fun i => Value.int .u8 ((f i : Nat) : Int)).toArray = _
  congr 1
  apply List.map_congr_left
  intro i hi
  simp only [Function.comp, Extern.Stop.cell]
  have h := h i (List.mem_range.1 hi)
  congr 1
  simp [Nat.mod_eq_of_lt h]
theorem Wd.get {W : List Nat} (h : Wd W) : ∀ i, i < 32 → W.getD i 0 < 256 := fun i _ => by
  rw [List.getD_eq_getElem?_getD]
  cases hq : W[i]? with
  | none => decide
  | some y => exact h.2 y (List.mem_of_getElem? hq)
theorem run_eqW {V U : List Nat} (hV : Wd V) (hU : Wd U) (w : World) : (binOp .eql 25 (.agg (wv V)) (.agg (wv U))).run Try.prog w = .ok (.bool (decide (V = U))) w := by
  have h := run_eql_bytes (P := Try.prog) w 25 5 32 wordN_type byte_ty (fun w => sizeOf_u8 w) (bytesOfI 32 (fun i => V.getD i 0)) (bytesOfI 32 (fun i => U.getD i 0)) (by simp [bytesOfI]) (by simp [bytesOfI])
  rw [← bc_bytesI 32 _ hV.get, ← bc_bytesI 32 _ hU.get] at h
  refine h.trans ?_
  congr 2
  rw [Bool.eq_iff_iff, beq_iff_eq, decide_eq_true_eq]
  exact ⟨fun e => wv_inj hV.1 hU.1 (show bc 32 _ = bc 32 _ by rw [bc_bytesI 32 _ hV.get, bc_bytesI 32 _ hU.get, e]), fun e => by rw [e]⟩
theorem build_zs32 (w : World) : (Instr.build 25 #[]).run Try.prog w = .ok (.agg (wv zs32)) w := by kernel_rfl
section
variable {o : Oper} {a : Act} {w : World}
theorem x_eqW {V U : List Nat} (hV : Wd V) (hU : Wd U) (xo yo : Operand) (yt : TypeId) (ho : o.op = .binOp .eql 25 xo yo yt) (hxe : a.eval xo = .agg (wv V)) (hye : a.eval yo = .agg (wv U)) : (execOp a.eval o).run Try.prog w = .ok (.value (.bool (decide (V = U)))) w := by
  have := run_eqW hV hU w
  unfold execOp
  simp only [ho, hxe, hye]
  show Sem.run _ _ w = _
  simp [eqGuard, this]
theorem x_buildW (ho : o.op = .build 25 #[]) : (execOp a.eval o).run Try.prog w = .ok (.value (.agg (wv zs32))) w := by
  unfold execOp
  simp only [ho, List.map_toArray, List.map_nil, build_zs32, Sem.run_bind, Result.andThen_ok, Sem.run_pure]
end
def zsV (m : Nat) : List Value := nb (List.replicate m 0)
theorem zsV_len (m : Nat) : (zsV m).length = m := by unfold zsV; rw [nb_length, List.length_replicate]
theorem zsV_one (m : Nat) : ∀ u ∈ zsV m, u.oneCell' = true := fun u hu => by obtain ⟨x, _, rfl⟩ := List.mem_map.1 hu; rfl
theorem zeroCells_u8 (m : Nat) : Builtin.zeroCells (Value.int .u8 0).cells m = (zsV m).toArray := by
  apply Array.ext
  · rw [size_zeroCells]; simp [zsV_len, Value.cells]
  · intro i h1 h2
    have h3 : i < m := by rw [size_zeroCells] at h1; simpa [Value.cells] using h1
    simp [Builtin.zeroCells, zsV, nb, Value.cells, Nat.mod_one]
theorem intI_tyI : Try.prog.underlying 3 = some (.int .i64) := by kernel_rfl
section
variable (w : World)
theorem wrap_natI (m : Nat) (h : m ≤ 2000000) : IntKind.i64.wrap (m : Int) = (m : Int) := by rw [IntKind.wrap_i64]; omega
theorem run_append_room_zI (ty g n cap m : Nat) (cur : Array Value) (hg : w.heap[g]? = some (.cells cur 5 (0, 0))) (hm : 0 < m) (hm2 : m ≤ 2000000)
    (hroom : n + m ≤ cap) (hfit : n + m ≤ cur.size) :
    (Builtin.append_ #[34, 3] ty #[.slice (some ⟨g, 0, none⟩) n cap, .int .i64 (m : Int)]).run Try.prog w =
      .ok (.slice (some ⟨g, 0, none⟩) (n + m) cap) (w.setRow g (cur.toList.take n ++ zsV m ++ cur.toList.drop (n + m)).toArray) := by
  obtain ⟨i, hi, hz, hs, hb⟩ := info_parts A_info
  have hst := run_storeCells_at Try.prog g n 5 (zsV m) 0 cur w hg (by simpa [zsV_len] using hfit) (zsV_one m)
  simp only [Nat.add_zero, zsV_len] at hst
  have h0 : ¬ ((m : Int) < 0) := by omega
  have h1 : ¬ (281474976710656 < (m : Int)) := by omega
  have h2 : ¬ m = 0 := by omega
  have hw := wrap_natI m hm2
  simp [Builtin.append_, run_underlying bytes_ty, run_underlying intI_tyI, sizeOf, typeInfo, hi, hz, hs, hb, zeroValue, asInt, asIntOf, hw, h0, h1, h2, hroom, zeroCells_u8, Addr.add_lit, hst]
theorem run_append_grow_zI (ty n cap m : Nat) (b : Addr) (olds : List Value) (hlo : olds.length = n) (holds : ∀ j v, olds[j]? = some v → w.cell? (b.add j) = some v) (hm : 0 < m) (hm2 : m ≤ 2000000) (hn : n ≤ 2000000)
    (hg : cap < n + m) :
    (Builtin.append_ #[34, 3] ty #[.slice (some b) n cap, .int .i64 (m : Int)]).run Try.prog w =
      .ok (.slice (some ⟨w.heap.size, 0, none⟩) (n + m) (grownCap w (n + m) cap 5))
        (w.drew.alloc (.cells (olds.toArray ++ (zsV m).toArray ++ Builtin.zeroCells (Value.int .u8 0).cells (grownCap w (n + m) cap 5 - (n + m))) 5)) := by
  obtain ⟨i, hi, hz, hs, hb⟩ := info_parts A_info
  have h0 : ¬ ((m : Int) < 0) := by omega
  have h1 : ¬ (281474976710656 < (m : Int)) := by omega
  have h2 : ¬ m = 0 := by omega
  have hw := wrap_natI m hm2
  have hnr : ¬ (n + m ≤ cap) := by omega
  have h63' : ¬ (9223372036854775807 < ((n : Int) + (m : Int))) := by omega
  have hgf := growslice_fits (need := n + m) (old := cap) (bytes := 1) (by omega) (by omega)
  have h48' : ¬ (281474976710656 < Builtin.nextslicecap (n + m) cap) := by rw [Nat.mul_one] at hgf; omega
  have hfo := run_firstCells_some (P := Try.prog) w.drew 1 n b n cap olds (by rw [hlo, Nat.mul_one]) (by simpa using holds)
  simp [Builtin.append_, run_underlying bytes_ty, run_underlying intI_tyI, sizeOf, typeInfo, hi, hz, hs, hb, zeroValue, asInt, asIntOf, hw, h0, h1, h2, hnr, h63', h48', Question.forced, hfo, newRow, grownCap, zeroCells_u8]
theorem run_append_nil_zI (ty m : Nat) (hm : 0 < m) (hm2 : m ≤ 2000000) :
    (Builtin.append_ #[34, 3] ty #[.slice none 0 0, .int .i64 (m : Int)]).run Try.prog w =
      .ok (.slice (some ⟨w.heap.size, 0, none⟩) m (grownCap w m 0 5))
        (w.drew.alloc (.cells ((zsV m).toArray ++ Builtin.zeroCells (Value.int .u8 0).cells (grownCap w m 0 5 - m)) 5)) := by
  obtain ⟨i, hi, hz, hs, hb⟩ := info_parts A_info
  have h0 : ¬ ((m : Int) < 0) := by omega
  have h1 : ¬ (281474976710656 < (m : Int)) := by omega
  have h2 : ¬ m = 0 := by omega
  have hw := wrap_natI m hm2
  have h63' : ¬ (9223372036854775807 < (m : Int)) := by omega
  have h48' : ¬ (281474976710656 < Builtin.nextslicecap m 0) := by rw [nextslicecap_zero hm]; omega
  simp [Builtin.append_, run_underlying bytes_ty, run_underlying intI_tyI, sizeOf, typeInfo, hi, hz, hs, hb, zeroValue, asInt, asIntOf, hw, h0, h1, h2, h63', h48', Question.forced, run_firstCells_none, newRow, grownCap, zeroCells_u8]
theorem own_append_zI (base ty : Nat) (v : Value) (n m : Nat) (xs : List Value) (hown : w.ownsRow base 5 1 v n xs) (hm : 0 < m) (hm2 : m ≤ 2000000) (hn : n ≤ 2000000) (hbase : base ≤ w.heap.size) :
    ∃ v' w', (Builtin.append_ #[34, 3] ty #[v, .int .i64 (m : Int)]).run Try.prog w = .ok v' w' ∧ w'.ownsRow base 5 1 v' (n + m) (xs ++ zsV m) ∧ w.grownBy w' v.ownBlock ∧ (v'.ownBlock = v.ownBlock ∨ v'.ownBlock = some w.heap.size) := by
  have hxl : xs.length = n := by simpa using hown.1
  have hlen : (xs ++ zsV m).length = (n + m) * 1 := by rw [List.length_append, hxl, zsV_len, Nat.mul_one]
  have h63 : n + m ≤ maxLen := by unfold maxLen; omega
  have grown : ∀ (old : Nat), old < n + m → ∀ (row : Option Nat),
      (w.drew.alloc (.cells (xs.toArray ++ (zsV m).toArray ++ Builtin.zeroCells (Value.int .u8 0).cells (grownCap w (n + m) old 5 - (n + m))) 5)).ownsRow base 5 1
        (.slice (some ⟨w.heap.size, 0, none⟩) (n + m) (grownCap w (n + m) old 5)) (n + m) (xs ++ zsV m) ∧
      w.grownBy (w.drew.alloc (.cells (xs.toArray ++ (zsV m).toArray ++ Builtin.zeroCells (Value.int .u8 0).cells (grownCap w (n + m) old 5 - (n + m))) 5)) row := by
    intro old ho row
    have hge := grownCap_ge w (n + m) old 5
    have hcm : grownCap w (n + m) old 5 ≤ maxLen := grownCap_le_maxLen w (n + m) old 5 h63
    refine ⟨⟨hlen, .inr ⟨w.heap.size, _, _, rfl, hbase, heap_alloc_new w.drew _, hge, hcm, ?_, ?_⟩⟩, ⟨rfl, rfl, rfl, by simp, fun k hk _ => Below.heap_alloc w.drew _ k hk⟩⟩
    · have hz1 : (Value.int IntKind.u8 0).cells.size = 1 := rfl
      simp only [Array.size_append, List.size_toArray, size_zeroCells, hz1, hxl, zsV_len]
      omega
    · simp only [Array.toList_append, List.append_assoc]
      rw [← List.append_assoc, ← hlen]
      exact List.take_left
  rcases hown.2 with ⟨rfl, rfl⟩ | ⟨g, cap, cur, rfl, hbg, hg, hnc, hcm, hcs, htake⟩
  · have hx : xs = [] := List.eq_nil_of_length_eq_zero hxl
    subst hx
    have hr := run_append_nil_zI w ty m hm hm2
    have hgr := grown 0 (by omega) (Value.ownBlock (.slice none 0 0))
    simp only [Nat.zero_add, List.nil_append, Array.empty_append] at hgr ⊢
    exact ⟨_, _, hr, hgr.1, hgr.2, .inr rfl⟩
  · by_cases hroom : n + m ≤ cap
    · have hcs' : cur.size = cap := by simpa using hcs
      have hr := run_append_room_zI w ty g n cap m cur hg hm hm2 hroom (by omega)
      refine ⟨_, _, hr, ⟨hlen, .inr ⟨g, cap, _, rfl, hbg, setRow_heap w g cur _ 5 _ hg, hroom, hcm, ?_, ?_⟩⟩, ⟨rfl, rfl, rfl, by simp, fun k _ hk => setRow_other w g k _ (fun e => hk (by simp [Value.ownBlock, e]))⟩, .inl rfl⟩
      · simp only [List.size_toArray, List.length_append, List.length_take, List.length_drop, Array.length_toList, zsV_len]
        omega
      · have ht' : cur.toList.take n = xs := by simpa using htake
        rw [ht', ← hlen]
        exact List.take_left
    · have holds : ∀ j u, xs[j]? = some u → w.cell? ((⟨g, 0, none⟩ : Addr).add j) = some u := hown.cells (g := g) rfl
      have hr := run_append_grow_zI w ty n cap m ⟨g, 0, none⟩ xs hxl holds hm hm2 hn (by omega)
      have hgr := grown cap (by omega) (Value.ownBlock (.slice (some ⟨g, 0, none⟩) n cap))
      exact ⟨_, _, hr, hgr.1, hgr.2, .inr rfl⟩
end

section
variable {ops : Array Oper} {rest : List Oper} {o : Oper} {a : Act} {w : World} {Q : Exit → Act → World → Prop}
/-- Whatever yields a value and turns nothing. -/
theorem st_x {v : Value} (hgd : o.guard = none) (hr : (execOp a.eval o).run Try.prog w = .ok (.value v) w) (h : wpList Try.prog ops Q rest (a.put o.dst v) w) : wpList Try.prog ops Q (o :: rest) a w :=
  wpList_plain hgd fun K hK => by
    unfold Oper.wp
    rw [hr]
    exact hK _ _ h
theorem tch_grow {w w' : World} {r : Option Nat} (h : w.grownBy w' r) : Tch r.toList w w' := ⟨h.os, h.tape, h.output, h.size, fun k hk hb => h.block k hk (fun e => hb (by rw [← e]; simp))⟩
theorem fresh_of {v v' : Value} {n : Nat} (h : v'.ownBlock = v.ownBlock ∨ v'.ownBlock = some n) : ∀ k, v'.ownBlock = some k → v.ownBlock = some k ∨ n ≤ k := fun k hk => by
  rcases h with h | h
  · left; rw [← h]; exact hk
  · right
    rw [h] at hk
    exact Nat.le_of_eq (Option.some.inj hk)
/-- append(v, make([]byte, m)...). -/
theorem st_growZ {B : Nat} {v : Value} {l : List Nat} {m : Nat} (hgd : o.guard = none) (s x : Operand)
    (ho : o.op = .call { callee := .builtin .append, args := #[s, x], argTypes := #[34, 3] }) (hs : a.eval s = v) (hx : a.eval x = .int .i64 (m : Int)) (hown : w.ownsRow B 5 1 v l.length (nb l)) (hB : B ≤ w.heap.size) (hm : 0 < m) (hm2 : m ≤ 2000000) (hl : l.length ≤ 2000000)
    (h : ∀ v' w', w'.ownsRow B 5 1 v' (l ++ List.replicate m 0).length (nb (l ++ List.replicate m 0)) → Tch v.ownBlock.toList w w' → (∀ k, v'.ownBlock = some k → v.ownBlock = some k ∨ w.heap.size ≤ k) → wpList Try.prog ops Q rest (a.put o.dst v') w') : wpList Try.prog ops Q (o :: rest) a w := by
  refine wpList_plain hgd fun K hK => ?_
  obtain ⟨v', w', hr, h2, hgrow, hat⟩ := own_append_zI w B o.type v l.length m (nb l) hown hm hm2 hl hB
  unfold Oper.wp execOp
  simp only [ho, resolve, invoke, builtin, Sem.run_bind, Sem.run_pure, Result.andThen_ok, List.map_toArray, List.map_cons, List.map_nil, hs, hx, hr]
  refine hK _ _ (h v' w' ?_ (tch_grow hgrow) (fresh_of hat))
  have e : nb (l ++ List.replicate m 0) = nb l ++ zsV m := by simp [nb, zsV]
  rw [e, List.length_append, List.length_replicate]; exact h2
/-- A value is stored into the one cell of a struct. -/
theorem st_storeV {ty : Nat} {b : Nat} {v v' : Value} {t : TypeId} (hB : Blk w b t #[v]) (hgd : o.guard = none) (x y : Operand) (ho : o.op = .store ty x y) (hx : a.eval x = .pointer (some ⟨b, 0, none⟩)) (hy : a.eval y = v') (hv : v'.oneCell' = true) (hi : (Try.prog.info? ty).map (·.size) = some 1)
    (h : ∀ w', Blk w' b t #[v'] → Only b w w' → wpList Try.prog ops Q rest (a.put o.dst undef) w') : wpList Try.prog ops Q (o :: rest) a w :=
  arm_store1 hgd ty x y ho hx hy hv hi hB (show 0 < 1 by decide) fun w' hB' hO => h w' (by simpa using hB') hO
end
theorem take_splice {α : Type} (cur xs M : List α) (n k : Nat) (hx : cur.take n = xs) (hn : xs.length = n) (hk : k + M.length ≤ n) : (cur.take k ++ (M ++ cur.drop (k + M.length))).take n = xs.take k ++ M ++ xs.drop (k + M.length) := by
  have hl : n ≤ cur.length := by
    have := congrArg List.length hx
    rw [List.length_take] at this; omega
  rw [← List.append_assoc, List.take_append]
  have e1 : (cur.take k ++ M).length = k + M.length := by rw [List.length_append, List.length_take]; omega
  rw [e1, List.take_of_length_le (by rw [e1]; exact hk), ← hx, List.take_take, Nat.min_eq_left (by omega), List.drop_take]
theorem bytes_sizeI : (Try.prog.info? 34).map (·.size) = some 1 := by kernel_rfl
theorem own_one {w : World} {B e m : Nat} {v : Value} {n : Nat} {xs : List Value} (h : w.ownsRow B e m v n xs) : v.oneCell' = true := by
  rcases h.2 with ⟨rfl, _⟩ | ⟨g, cap, cur, rfl, _⟩ <;> rfl
theorem Only.tch {b : Nat} {w w' : World} (h : Only b w w') : Tch [b] w w' := ⟨h.os, h.tape, h.output, Nat.le_of_eq h.size.symm, fun k _ hk => h.block k (by simpa using hk)⟩
/-- The struct behind a new row and its store. -/
theorem RowIn.stored {B ty e m : Nat} {w w1 w2 : World} {b : Nat} {v v' : Value} {n n' : Nat} {xs xs' : List Value} (h : RowIn B ty e m w b v n xs) (hown : w1.ownsRow B e m v' n' xs') (hT : Tch v.ownBlock.toList w w1) (hf : ∀ k, v'.ownBlock = some k → v.ownBlock = some k ∨ w.heap.size ≤ k) (hB : Blk w2 b ty #[v']) (hO : Only b w1 w2) :
    RowIn B ty e m w2 b v' n' xs' ∧ Turned w w2 b v v' := by
  have hne : v'.ownBlock ≠ some b := fun e => by
    rcases hf b e with h1 | h1
    · exact h.apart h1
    · have := h.blk.lt; omega
  exact ⟨⟨hB, own_far hown hO.tch (fun k hk => by rw [List.mem_singleton]; intro e; rw [e] at hk; exact hne hk), hne, h.base⟩,
    (hT.mono fun x hx => .inl (by unfold fpr; exact List.mem_cons_of_mem _ hx)).trans (hO.tch.mono fun x hx => .inl (by unfold fpr; rw [List.mem_singleton.1 hx]; exact List.mem_cons_self)), hf⟩
theorem RowIn.kept {B ty e m : Nat} {w w' : World} {b : Nat} {v : Value} {n : Nat} {xs : List Value} {L : List Ent} (h : RowIn B ty e m w b v n xs) (hS : St [b] w w' L) (hA : At L b ty #[v]) : RowIn B ty e m w' b v n xs ∧ Turned w w' b v v :=
  ⟨⟨hS.get hA, own_far h.own hS.frame (fun k hk => by rw [List.mem_singleton]; intro e; rw [e] at hk; exact h.apart hk), h.apart, h.base⟩, hS.frame.mono (fun x hx => .inl (mem_fpr.2 (.inl (List.mem_singleton.1 hx)))), fun _ hk => .inl hk⟩
end Go.Proofs.Ytklpcppdjcedpaa
