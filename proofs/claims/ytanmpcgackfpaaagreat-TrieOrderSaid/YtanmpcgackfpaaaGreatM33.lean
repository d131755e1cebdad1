/- What trie.Nodes keeps: the closure that hashes, and keeps what it hashed. -/
import Derived.Test.YtanmpcgackfpaaaGreatM01
import Derived.Test.YtanmpcgackfpaaaGreatM14
import Derived.Test.YtanmpcgackfpaaaGreatM27
import Derived.Test.YtanmpcgackfpaaaGreatM28
import Derived.Deep.AppendLies
import Derived.Shelf.SlSortCmp.WholeK
import Derived.Deep.MidRow
import Derived.Lib.SliceRun
set_option linter.unusedVariables false
set_option linter.unusedSimpArgs false
namespace Go.Proofs.YtanmpcgackfpaaaGreat
section
open Go.RowKit Tr
set_option maxRecDepth 100000
def ndA (f : Nat → Nat) (v : Value) : Array Value := wf f ++ #[v]
theorem qf9 (f : Nat → Nat) (v : Value) : (ndA f v).size = 33 := by simp [ndA, qa5]
theorem ndA_one (f : Nat → Nat) {v : Value} (hv : v.oneCell' = true) : (ndA f v).all (·.oneCell') = true := by
  unfold ndA
  rw [Array.all_append, qj1]
  simp [hv]
abbrev KList := List (List Nat × Value)
def kCells (L : KList) : List Value := L.flatMap fun p => (ndA (hashN p.1) p.2).toList
def zsOf (bf : Nat) (v : Value) : List Nat := bf :: v.ownBlock.toList
def KN (bf m : Nat) (L : KList) (v : Value) (w : World) : Prop :=
  m ≤ bf ∧ Blk w bf 38 #[v] ∧ w.ownsRow m 43 33 v L.length (kCells L) ∧ ∀ p ∈ L, RdA (zsOf bf v) w p.2 p.1
def KStep (bf : Nat) (v v' : Value) (w w' : World) : Prop := Tch (zsOf bf v) w w' ∧ ∀ x ∈ zsOf bf v', x ∈ zsOf bf v ∨ w.heap.size ≤ x
theorem KStep.refl (bf : Nat) (v : Value) {w w' : World} (h : Tch [] w w') : KStep bf v v w w' := ⟨h.mono (by simp), fun x hx => .inl hx⟩
theorem KStep.trans {bf : Nat} {v v' v'' : Value} {w w' w'' : World} (h : KStep bf v v' w w') (k : KStep bf v' v'' w' w'') : KStep bf v v'' w w'' := by
  refine ⟨⟨k.1.os.trans h.1.os, k.1.tape.trans h.1.tape, k.1.output.trans h.1.output, Nat.le_trans h.1.size k.1.size, fun i hi hb => ?_⟩, fun x hx => ?_⟩
  · refine (k.1.block i (Nat.lt_of_lt_of_le hi h.1.size) fun hm => ?_).trans (h.1.block i hi hb)
    rcases h.2 i hm with h2 | h2
    · exact hb h2
    · omega
  · rcases k.2 x hx with h2 | h2
    · exact h.2 x h2
    · exact .inr (Nat.le_trans h.1.size h2)
theorem own_eq {w w' : World} {base k n : Nat} {e : TypeId} {v : Value} {xs : List Value} (h : w.ownsRow base e k v n xs) (he : ∀ g, v.ownBlock = some g → w'.heap[g]? = w.heap[g]?) : w'.ownsRow base e k v n xs := by
  refine ⟨h.1, ?_⟩
  rcases h.2 with h2 | ⟨g, cap, cur, h1, h2, h3, h4⟩
  · exact .inl h2
  · exact .inr ⟨g, cap, cur, h1, h2, (he g (by rw [h1]; rfl)).trans h3, h4⟩
theorem ItC.step {bf : Nat} {v v' : Value} {X : List Nat} {w w' : World} {k : Nat} {x y z : Value} {t : It} (h : ItC (zsOf bf v ++ X) w k x y z t) (hK : KStep bf v v' w w') : ItC (zsOf bf v' ++ X) w' k x y z t := by
  have h1 : ItC ((zsOf bf v ++ X) ++ zsOf bf v') w k x y z t := h.mono (fun q hq => by
    rcases List.mem_append.1 hq with hq | hq
    · exact .inl hq
    · exact (hK.2 q hq).imp (fun h => List.mem_append_left _ h) id)
  exact (h1.tch (hK.1.mono (fun q hq => .inl (List.mem_append_left _ (List.mem_append_left _ hq))))).mono (fun q hq => .inl (by
    rcases List.mem_append.1 hq with hq | hq
    · exact List.mem_append_right _ hq
    · exact List.mem_append_left _ (List.mem_append_right _ hq)))
theorem RdA.step {bf : Nat} {v v' : Value} {X : List Nat} {w w' : World} {y : Value} {l : List Nat} (h : RdA (zsOf bf v ++ X) w y l) (hK : KStep bf v v' w w') : RdA (zsOf bf v' ++ X) w' y l := by
  have h1 : RdA ((zsOf bf v ++ X) ++ zsOf bf v') w y l := h.mono (fun q hq => by
    rcases List.mem_append.1 hq with hq | hq
    · exact .inl hq
    · exact (hK.2 q hq).imp (fun h => List.mem_append_left _ h) id)
  exact (h1.tch (hK.1.mono (fun q hq => .inl (List.mem_append_left _ (List.mem_append_left _ hq))))).mono (fun q hq => .inl (by
    rcases List.mem_append.1 hq with hq | hq
    · exact List.mem_append_right _ hq
    · exact List.mem_append_left _ (List.mem_append_right _ hq)))
theorem KN.lt {bf m : Nat} {L : KList} {v : Value} {w : World} (h : KN bf m L v w) : ∀ x ∈ zsOf bf v, m ≤ x ∧ x < w.heap.size := fun x hx => by
  rcases List.mem_cons.1 hx with rfl | hx
  · exact ⟨h.1, h.2.1.lt⟩
  · exact h.2.2.1.lt x (by simpa using hx)
theorem KN.call {bf m : Nat} {L : KList} {v : Value} {w w' : World} (h : KN bf m L v w) (hT : Tch [] w w') : KN bf m L v w' :=
  ⟨h.1, hT.blk h.2.1 (by simp), own_eq h.2.2.1 (fun g hg => hT.block g (h.2.2.1.lt g hg).2 (by simp)), fun p hp => (h.2.2.2 p hp).tch (hT.mono (by simp))⟩
theorem St.callX {bs xs : List Nat} {w0 w w' : World} {L : List Ent} (h : St bs w0 w L) (hT : Tch xs w w') (hx : ∀ x ∈ xs, x ∈ bs ∨ w0.heap.size ≤ x) (hL : ∀ e ∈ L, e.1 ∉ xs) : St bs w0 w' L :=
  ⟨⟨hT.os.trans h.frame.os, hT.tape.trans h.frame.tape, hT.output.trans h.frame.output, Nat.le_trans h.frame.size hT.size, fun k hk hb => (hT.block k (Nat.lt_of_lt_of_le hk h.frame.size) fun hm => (hx k hm).elim hb (fun h => by omega)).trans (h.frame.block k hk hb)⟩, fun e he => ⟨hT.blk (h.blk e he).1 (hL e he), (h.blk e he).2⟩, h.apart⟩
theorem node_infos : (Tryz.prog.info? 43).map (fun i => (i.zero, i.size, i.bytes)) = some (some (.agg (ndA (fun _ => 0) (.slice none 0 0))), 33, 56) := by
  unfold ndA; rw [wf_zeros]; kernel_rfl
theorem nodes_size : (Tryz.prog.info? 38).map (·.size) = some 1 := by kernel_rfl
theorem qe7 (w : World) : (isAgg 38).run Tryz.prog w = .ok false w := by kernel_rfl
theorem build_node (f : Nat → Nat) (p : Option Addr) (n c : Nat) (w : World) : (Instr.build 43 #[(0, .agg (wf f)), (1, .slice p n c)]).run Tryz.prog w = .ok (.agg (ndA f (.slice p n c))) w := by kernel_rfl
theorem buildN1 (f : Nat → Nat) (p : Option Addr) (n c : Nat) (w : World) : (Instr.buildSlice 38 1 #[(0, .agg (ndA f (.slice p n c)))]).run Tryz.prog w = .ok (.slice (some ⟨w.heap.size, 0, none⟩) 1 1) (w.alloc (.cells (ndA f (.slice p n c)) 43)) := by kernel_rfl
section
variable {ops : Array Oper} {rest : List Oper} {o : Oper} {a : Act} {w : World} {Q : Exit → Act → World → Prop}
theorem st_bld {ty : TypeId} {parts : Array (Nat × Operand)} {v : Value} (vals : Array (Nat × Value)) (hgd : o.guard = none) (ho : o.op = .build ty parts)
    (hv : (parts.map fun (i, x) => (i, a.eval x)) = vals) (hr : (Instr.build ty vals).run Tryz.prog w = .ok v w) (h : wpList Tryz.prog ops Q rest (a.put o.dst v) w) : wpList Tryz.prog ops Q (o :: rest) a w :=
  wpList_plain hgd fun K hK => by
    subst hv
    unfold Oper.wp execOp
    simp only [ho, Sem.run_bind, hr, Result.andThen_ok, Sem.run_pure]
    exact hK _ _ h
theorem st_appN {m n : Nat} {v : Value} {us : List Value} {c : Array Value} (hgd : o.guard = none) (s x : Operand)
    (ho : o.op = .call { callee := .builtin .append, args := #[s, x], argTypes := #[38, 38] }) (hs : a.eval s = v) (hx : a.eval x = .slice (some ⟨w.heap.size, 0, none⟩) 1 1)
    (hown : w.ownsRow m 43 33 v n us) (hm : m ≤ w.heap.size) (hsz : c.size = 33) (hone : c.all (·.oneCell') = true) (hlen : n ≤ 100000000)
    (h : ∀ v' w', w'.ownsRow m 43 33 v' (n + 1) (us ++ c.toList) → Tch v.ownBlock.toList w w' → (∀ g, v'.ownBlock = some g → v.ownBlock = some g ∨ w.heap.size ≤ g) → wpList Tryz.prog ops Q rest (a.put o.dst v') w') :
    wpList Tryz.prog ops Q (o :: rest) a (w.alloc (.cells c 43)) := by
  obtain ⟨i0, hi, hz0, hz1, hz2⟩ := info_parts node_infos
  have hnews : ∀ j u, c.toList[j]? = some u → (w.alloc (.cells c 43)).cell? ((⟨w.heap.size, 0, none⟩ : Addr).add j) = some u := World.news_of_block (cs := c) (t := 43) (fr := (0, 0)) (heap_alloc_new w _)
  refine wpList_append_own_at (w := w.alloc (.cells c 43)) hgd s x 38 ho m 43 i0 _ 33 56 qk1 hi hz0 hz1 hz2 (qf9 _ _) (by decide) v n us hs (hown.alloc _) ⟨w.heap.size, 0, none⟩ 1 1 c.toList hx (by rw [Array.length_toList, hsz]) hnews (fun u hu => (Array.all_eq_true_iff_forall_mem.1 hone) u (by simpa using hu)) (by unfold maxLen; omega) (by omega) (by simp; omega) ?_
  intro v' w' hown' hgrow _ hv'
  refine h v' w' hown' (((Tch.refl _ _).alloc _).trans ⟨hgrow.os, hgrow.tape, hgrow.output, hgrow.size, fun k hk hm' => hgrow.block k hk (fun e => hm' (by rw [← e]; simp))⟩) (fun g hg => ?_)
  rcases hv' with e | e
  · rw [e] at hg; exact .inl hg
  · rw [e] at hg
    have := Option.some.inj hg
    simp at this
    exact .inr (by omega)
end
end
section
open Go.RowKit Tr
open Go.Sort (grow alloc_eq_grow grow_grow putRow putCells HoldsK Holds flatK mapBlock SWO PermIn SortedIn size_flatK get_flatK)
open Go.Proofs (sortWorldK)
set_option maxRecDepth 100000
theorem qh8 : ∀ L : KList, (kCells L).length = L.length * 33
  | [] => rfl
  | p :: L => by
    have ih := qh8 L
    unfold kCells at ih ⊢
    rw [List.flatMap_cons, List.length_append, ih, Array.length_toList, qf9, List.length_cons]
    omega
theorem kCells_get : ∀ (L : KList) (i j : Nat) (h : i < L.length), j < 33 → (kCells L)[i * 33 + j]? = (ndA (hashN L[i].1) L[i].2)[j]?
  | p :: L, 0, j, _, hj => by
    unfold kCells
    rw [List.flatMap_cons, Nat.zero_mul, Nat.zero_add, List.getElem?_append_left (by rw [Array.length_toList, qf9]; exact hj), Array.getElem?_toList]
    rfl
  | p :: L, i + 1, j, h, hj => by
    have ih := kCells_get L i j (by simpa using h) hj
    have hl : ((ndA (hashN p.1) p.2).toList).length = 33 := by rw [Array.length_toList, qf9]
    unfold kCells at ih ⊢
    rw [List.flatMap_cons, List.getElem?_append_right (by rw [hl]; omega), hl, show (i + 1) * 33 + j - 33 = i * 33 + j by omega, ih]
    rfl
def NdS : Type := { x : List Nat × Value // x.2.oneCell' = true }
instance : Inhabited NdS := ⟨⟨([], .slice none 0 0), rfl⟩⟩
theorem nd_sizeOf (w : World) : (Go.sizeOf 43).run Tryz.prog w = .ok 33 w := by kernel_rfl
end
section
open Go.RowKit Tr
set_option maxRecDepth 100000
section
variable {ops : Array Oper} {rest : List Oper} {o : Oper} {a : Act} {bs : List Nat} {w0 w : World} {Q : Exit → Act → World → Prop} {L : List Ent}
end
theorem rdB_at {X : List Nat} {w : World} {b n c : Nat} {l : List Nat} (h : RdB w (.slice (some ⟨b, 0, none⟩) n c) l) (hb : b ∉ X) : RdA X w (.slice (some ⟨b, 0, none⟩) n c) l := by
  obtain ⟨p, c', h1, h2, h3, h4⟩ := h
  refine ⟨p, c', h1, h2, h3, fun hl => ?_⟩
  obtain ⟨b', o, h5, h6, h7⟩ := h4 hl
  refine ⟨b', o, h5, h6, ?_, h7⟩
  rw [h5] at h1
  injection h1 with h1
  injection h1 with h1
  injection h1 with h1
  rw [← h1]; exact hb
end
section
open Go.RowKit Tr
set_option maxRecDepth 100000
theorem bytes_beq (l1 l2 : List Nat) : (bytesOfN 32 (hashN l1) == bytesOfN 32 (hashN l2)) = (HL l1 == HL l2) := by
  have e : ∀ l : List Nat, (bytesOfN 32 (hashN l)).map UInt8.toNat = HL l := fun l => by
    unfold bytesOfN HL
    rw [List.map_map]
    apply List.map_congr_left
    intro i _
    simp [Function.comp, Nat.mod_eq_of_lt (qj2 _ i)]
    exact qj2 _ i
  by_cases h : bytesOfN 32 (hashN l1) = bytesOfN 32 (hashN l2)
  · rw [← e l1, ← e l2, h, beq_self_eq_true, beq_self_eq_true]
  · have h2 : HL l1 ≠ HL l2 := fun q => h (by
      rw [← e l1, ← e l2] at q
      exact (List.map_inj_right (fun x y hxy => UInt8.toNat_inj.1 hxy)).1 q)
    rw [beq_eq_false_iff_ne.2 h, beq_eq_false_iff_ne.2 h2]
theorem run_eql_hash2 (l1 l2 : List Nat) (w : World) : (binOp .eql 32 (.agg (wf (hashN l1))) (.agg (wf (hashN l2)))).run Tryz.prog w = .ok (.bool (HL l1 == HL l2)) w := by
  have := run_eql_bytes (P := Tryz.prog) w 32 5 32 qc7 byteN_ty (fun w => sizeOf_u8 w) (bytesOfN 32 (hashN l1)) (bytesOfN 32 (hashN l2)) (by simp [bytesOfN]) (by simp [bytesOfN])
  rw [← bc_bytesN 32 (hashN l1) (fun i _ => qj2 _ _), ← bc_bytesN 32 (hashN l2) (fun i _ => qj2 _ _), bc_wf, bc_wf, bytes_beq] at this
  exact this
section
variable {a : Act} {w : World} {o : Oper}
end
theorem nd_rangeW {W : World} {b : Nat} {t : TypeId} {f : Nat → Nat} {v : Value} (hB : Blk W b t (ndA f v)) : W.rangeAt b 0 (wf f).toList := fun q u hu => by
  rw [Array.getElem?_toList] at hu
  have hq : q < 32 := by
    rcases Nat.lt_or_ge q 32 with h | h
    · exact h
    · rw [wf_none h] at hu; cases hu
  rw [Nat.zero_add]
  refine hB.cell ?_
  unfold ndA
  rw [Array.getElem?_append_left (by rw [qa5]; exact hq)]
  exact hu
def kp (L : KList) (j : Nat) : Bool := j == 0 || !(HL (L.getD j ([], .slice none 0 0)).1 == HL (L.getD (j - 1) ([], .slice none 0 0)).1)
def cmp (L : KList) (n : Nat) : KList := ((List.range n).filter (kp L)).map fun j => L.getD j ([], .slice none 0 0)
theorem cmp_succ (L : KList) (n : Nat) : cmp L (n + 1) = cmp L n ++ (if kp L n = true then [L.getD n ([], .slice none 0 0)] else []) := by
  unfold cmp
  rw [List.range_succ, List.filter_append, List.map_append]
  congr 1
  by_cases h : kp L n = true
  · simp [h]
  · simp [h]
theorem cmp_all (L : KList) : ∀ n, n ≤ L.length → (∀ j, j < n → kp L j = true) → cmp L n = L.take n
  | 0, _, _ => by simp [cmp]
  | n + 1, hn, h => by
    rw [cmp_succ, cmp_all L n (by omega) (fun j hj => h j (by omega)), if_pos (h n (by omega)), List.take_add_one]
    have : L[n]? = some L[n] := List.getElem?_eq_getElem (by omega)
    rw [this, List.getD_eq_getElem?_getD, this]
    rfl
def CI (L : KList) (j kk : Nat) (M : KList) : Prop := M.length = L.length ∧ M.take kk = cmp L j ∧ kk = (cmp L j).length ∧ kk + 1 ≤ j ∧ ∀ i, j ≤ i + 1 → i < L.length → M[i]? = L[i]?
theorem CI.start {L : KList} {k : Nat} (hk : k < L.length) (h : ∀ j, j < k → kp L j = true) (hd : kp L k = false) : CI L (k + 1) k L := by
  have e : cmp L (k + 1) = L.take k := by rw [cmp_succ, hd, cmp_all L k (by omega) h]; simp
  refine ⟨rfl, e.symm, ?_, Nat.le_refl _, fun _ _ _ => rfl⟩
  rw [e, List.length_take]; omega
theorem CI.skip {L M : KList} {j kk : Nat} (h : CI L j kk M) (hd : kp L j = false) : CI L (j + 1) kk M := by
  obtain ⟨h1, h2, h3, h4, h5⟩ := h
  have e : cmp L (j + 1) = cmp L j := by rw [cmp_succ, hd]; simp
  exact ⟨h1, by rw [e]; exact h2, by rw [e]; exact h3, by omega, fun i hi hl => h5 i (by omega) hl⟩
theorem CI.keep {L M : KList} {j kk : Nat} (h : CI L j kk M) (hj : j < L.length) (hd : kp L j = true) : CI L (j + 1) (kk + 1) (M.set kk L[j]) := by
  obtain ⟨h1, h2, h3, h4, h5⟩ := h
  have e : cmp L (j + 1) = cmp L j ++ [L[j]] := by
    rw [cmp_succ, if_pos hd, List.getD_eq_getElem?_getD, List.getElem?_eq_getElem hj]; rfl
  refine ⟨by rw [List.length_set, h1], ?_, by rw [e, List.length_append, ← h3]; rfl, by omega, fun i hi hl => ?_⟩
  · have hkk : kk < (M.set kk L[j]).length := by rw [List.length_set]; omega
    rw [List.take_add_one, List.getElem?_eq_getElem hkk, List.getElem_set_self, List.take_set_of_le (Nat.le_refl _), h2, e]
    rfl
  · rw [List.getElem?_set_ne (by omega)]
    exact h5 i (by omega) hl
theorem qh7 (A B : KList) : kCells (A ++ B) = kCells A ++ kCells B := by simp [kCells]
section
variable {o : Oper} {a : Act} {ops : Array Oper} {rest : List Oper} {C : World → Prop} {Q : Act → Prop}
theorem k_idxNj {g n c i q : Nat} (hw : Region.wanted o (yielded ops a.tmps) = true) (x y : Operand) (ho : o.op = .indexAddr 38 x y) (hx : a.eval x = .slice (some ⟨g, q, none⟩) n c) (hy : a.eval y = .int .i64 (i : Int)) (hn : i < n)
    (h : KQ ops C Q rest (a.put o.dst (.pointer (some ⟨g, q + i * 33, none⟩)))) : KQ ops C Q (o :: rest) a :=
  qd6 hw (fun w => by
    have hadd : (⟨g, q, none⟩ : Addr).add (i * 33) = ⟨g, q + i * 33, none⟩ := by unfold Addr.add; split <;> simp_all
    have hsz : (Tryz.prog.info? 43).map (·.size) = some 33 := by kernel_rfl
    have hr : (Instr.indexAt 38 (.slice (some ⟨g, q, none⟩) n c) (.int .i64 (i : Int))).run Tryz.prog w = .ok (.pointer (some ⟨g, q + i * 33, none⟩)) w := by
      simp [Instr.indexAt, run_underlying qk1, Instr.sureAddr, asIntOf, qe1 hsz, hn, hadd]
    unfold execOp
    simp only [ho, hx, hy, Sem.run_bind, hr, Result.andThen_ok, Sem.run_pure]) h
end
end
end Go.Proofs.YtanmpcgackfpaaaGreat
