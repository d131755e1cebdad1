/- Bytes with reach, reslices, clones, texts of bytes held against each other; steps of regions in the text's order. No function of the program. -/
import Derived.Test.YtklpcppdjcedpaaG1
import Derived.Lib.BitFns
import Derived.Laws.CopyOwn
import Derived.Laws.AppendOwnNone
import Derived.Laws.BitsAllLaws
import Derived.Stop.BytesEq
set_option linter.unusedVariables false
set_option linter.unusedSimpArgs false
namespace Go.Proofs.Ytklpcppdjcedpaa
open Go.RowKit

/-- Bytes written over others. -/
def wr (f : Nat → Nat) (at_ : Nat) (l : List Nat) : Nat → Nat := fun i => if at_ ≤ i ∧ i < at_ + l.length then l.getD (i - at_) 0 else f i
theorem wr_nil (f : Nat → Nat) (p : Nat) : wr f p [] = f := by
  funext i; unfold wr; rw [if_neg (by simp)]
theorem wr_one (f : Nat → Nat) (p x : Nat) : wr f p [x] = fun i => if i = p then x else f i := by
  funext i; unfold wr
  by_cases h : i = p
  · rw [if_pos (by simp; omega), if_pos h, h]; simp
  · rw [if_neg (by simp; omega), if_neg h]
theorem wr_wr (f : Nat → Nat) (p : Nat) (l m : List Nat) : wr (wr f (p + l.length) m) p l = wr f p (l ++ m) := by
  funext i; unfold wr
  rw [List.length_append]
  by_cases h1 : p ≤ i ∧ i < p + l.length
  · rw [if_pos h1, if_pos (by omega)]
    rw [List.getD_eq_getElem?_getD, List.getD_eq_getElem?_getD, List.getElem?_append_left (by omega)]
  · rw [if_neg h1]
    by_cases h2 : p + l.length ≤ i ∧ i < p + l.length + m.length
    · rw [if_pos h2, if_pos (by omega)]
      rw [List.getD_eq_getElem?_getD, List.getD_eq_getElem?_getD, List.getElem?_append_right (by omega)]
      rw [show i - (p + l.length) = i - p - l.length by omega]
    · rw [if_neg h2, if_neg (by omega)]
theorem wr_zero (f : Nat → Nat) (l : List Nat) : bc l.length (wr f 0 l) = bc l.length (fun i => l.getD i 0) := by
  refine bc_congr fun i hi => ?_
  unfold wr; rw [if_pos (by omega), Nat.sub_zero]
/-- A value that is a slice of these bytes, none of them in the blocks of X. -/
def RdA (X : List Nat) (w : World) (v : Value) (l : List Nat) : Prop := ∃ p c, v = .slice p l.length c ∧ l.length ≤ c ∧ (∀ x ∈ l, x < 256) ∧ (l ≠ [] → ∃ b o, p = some ⟨b, o, none⟩ ∧ b < w.heap.size ∧ b ∉ X ∧ ∀ i, i < l.length → w.cell? ⟨b, o + i, none⟩ = some (.int .u8 ((l.getD i 0 : Nat) : Int)))
theorem RdA.tch {X : List Nat} {w w' : World} {v : Value} {l : List Nat} (h : RdA X w v l) (hT : Tch X w w') : RdA X w' v l := by
  obtain ⟨p, c, h1, h2, h3, h4⟩ := h
  refine ⟨p, c, h1, h2, h3, fun hl => ?_⟩
  obtain ⟨b, o, h5, h6, h7, h8⟩ := h4 hl
  exact ⟨b, o, h5, Nat.lt_of_lt_of_le h6 hT.size, h7, fun i hi => by rw [hT.cell (p := ⟨b, o + i, none⟩) h6 h7]; exact h8 i hi⟩
theorem RdA.rdB {X : List Nat} {w : World} {v : Value} {l : List Nat} (h : RdA X w v l) : RdB w v l := by
  obtain ⟨p, c, h1, h2, h3, h4⟩ := h
  refine ⟨p, c, h1, h2, h3, fun hl => ?_⟩
  obtain ⟨b, o, h5, h6, _, h8⟩ := h4 hl
  exact ⟨b, o, h5, h6, h8⟩
theorem RdB.rdA {X : List Nat} {w : World} {v : Value} {l : List Nat} (h : RdB w v l) (hX : ∀ x ∈ X, w.heap.size ≤ x) : RdA X w v l := by
  obtain ⟨p, c, h1, h2, h3, h4⟩ := h
  refine ⟨p, c, h1, h2, h3, fun hl => ?_⟩
  obtain ⟨b, o, h5, h6, h8⟩ := h4 hl
  exact ⟨b, o, h5, h6, fun hm => Nat.lt_irrefl b (Nat.lt_of_lt_of_le h6 (hX _ hm)), h8⟩
theorem RdA.mono {X Y : List Nat} {w : World} {v : Value} {l : List Nat} (h : RdA X w v l) (hX : ∀ y ∈ Y, y ∈ X ∨ w.heap.size ≤ y) : RdA Y w v l := by
  obtain ⟨p, c, h1, h2, h3, h4⟩ := h
  refine ⟨p, c, h1, h2, h3, fun hl => ?_⟩
  obtain ⟨b, o, h5, h6, h7, h8⟩ := h4 hl
  exact ⟨b, o, h5, h6, fun hm => (hX _ hm).elim h7 (fun h => by omega), h8⟩
theorem splice_bc (n0 at_ : Nat) (f : Nat → Nat) (l : List Nat) (h : at_ + l.length ≤ n0) : ((bc n0 f).toList.take at_ ++ (nb l ++ (bc n0 f).toList.drop (at_ + (nb l).length))).toArray = bc n0 (wr f at_ l) := by
  apply Array.ext_getElem?
  intro i
  simp only [nb_length, List.getElem?_toArray]
  have hsz : (bc n0 f).toList.length = n0 := by simp [bc_size]
  have hg : ∀ i, (bc n0 f).toList[i]? = (bc n0 f)[i]? := fun i => Array.getElem?_toList
  by_cases h1 : i < at_
  · rw [List.getElem?_append_left (by rw [List.length_take, hsz]; omega), List.getElem?_take, if_pos h1, hg, bc_get (by omega), bc_get (by omega)]
    unfold wr; rw [if_neg (by omega)]
  · rw [List.getElem?_append_right (by rw [List.length_take, hsz]; omega), List.length_take, hsz, Nat.min_eq_left (by omega)]
    by_cases h2 : i < at_ + l.length
    · rw [List.getElem?_append_left (by rw [nb_length]; omega), nb_get (by omega), bc_get (by omega)]
      unfold wr; rw [if_pos (by omega)]
    · rw [List.getElem?_append_right (by rw [nb_length]; omega), nb_length, List.getElem?_drop, show at_ + l.length + (i - at_ - l.length) = i by omega, hg]
      by_cases h3 : i < n0
      · rw [bc_get h3, bc_get h3]; unfold wr; rw [if_neg (by omega)]
      · rw [bc_none (by omega), bc_none (by omega)]
/-- Bytes are copied into bytes. -/
theorem copy_bytes {ops : Array Oper} {rest : List Oper} {o : Oper} {a : Act} {w : World} {Q : Exit → Act → World → Prop} {b n0 at_ c : Nat} {t sT : TypeId} {f : Nat → Nat} {v : Value} {l : List Nat} (hB : Blk w b t (bc n0 f)) (hgd : o.guard = none) (d s : Operand)
    (ho : o.op = .call { callee := .builtin .copy, args := #[d, s], argTypes := #[34, sT] }) {dp : Option Addr} (hd : a.eval d = .slice dp l.length c) (hdp : l ≠ [] → dp = some ⟨b, at_, none⟩) (hs : a.eval s = v) (hv : RdB w v l) (hl : at_ + l.length ≤ n0)
    (h : ∀ w', Blk w' b t (bc n0 (wr f at_ l)) → Only b w w' → wpList Try.prog ops Q rest (a.put o.dst (goInt l.length)) w') : wpList Try.prog ops Q (o :: rest) a w := by
  obtain ⟨p, c', rfl, h2, h3, h4⟩ := hv
  by_cases hl0 : l = []
  · subst hl0
    refine wpList_copy_nothing hgd d s _ sT ho _ bytes_ty u8_size _ _ _ _ _ _ hd hs (by simp) ?_
    refine h w ?_ (Only.refl _ _)
    rw [wr_nil]; exact hB
  · obtain ⟨pb, po, rfl, h6, h7⟩ := h4 hl0
    obtain rfl := hdp hl0
    refine wpList_copy_own hgd d s 34 sT ho 5 bytes_ty u8_size b at_ l.length c ⟨pb, po, none⟩ l.length c' hd hs (bc n0 f) t hB (nb l) (by rw [nb_length]; exact (Nat.min_self _).symm) (fun j u hj => ?_) (by rw [nb_length, bc_size]; exact hl) (fun u hu => ?_) ?_
    · have hj' : j < l.length := by
        have := (List.getElem?_eq_some_iff.1 hj).1
        rwa [nb_length] at this
      have hadd : (⟨pb, po, none⟩ : Addr).add j = ⟨pb, po + j, none⟩ := by unfold Addr.add; split <;> simp_all
      rw [hadd, h7 j hj', ← nb_get hj', hj]
    · obtain ⟨x, _, rfl⟩ := List.mem_map.1 hu; rfl
    · rw [splice_bc _ _ _ _ hl, nb_length]
      exact h _ (hB.row _) (Only.setRow _ _ _)
theorem RdA.take {X : List Nat} {w : World} {p : Option Addr} {n c k : Nat} {l : List Nat} (h : RdA X w (.slice p n c) l) (hk : k ≤ n) : RdA X w (.slice p k c) (l.take k) := by
  obtain ⟨p', c', h1, h2, h3, h4⟩ := h
  cases h1
  refine ⟨p, c, by rw [List.length_take, Nat.min_eq_left hk], by rw [List.length_take]; omega, fun x hx => h3 x (List.mem_of_mem_take hx), fun hl => ?_⟩
  have hne : l ≠ [] := by intro e; subst e; simp at hl
  obtain ⟨b, o, h5, h6, h7, h8⟩ := h4 hne
  refine ⟨b, o, h5, h6, h7, fun i hi => ?_⟩
  rw [List.length_take] at hi
  rw [h8 i (by omega), List.getD_eq_getElem?_getD, List.getD_eq_getElem?_getD, List.getElem?_take, if_pos (by omega)]
theorem RdA.len {X : List Nat} {w : World} {p : Option Addr} {n c : Nat} {l : List Nat} (h : RdA X w (.slice p n c) l) : n = l.length := by
  obtain ⟨p', c', h1, _⟩ := h
  cases h1; rfl
theorem RdA.cap {X : List Nat} {w : World} {p : Option Addr} {n c : Nat} {l : List Nat} (h : RdA X w (.slice p n c) l) : n ≤ c := by
  obtain ⟨p', c', h1, h2, _⟩ := h
  cases h1; exact h2
theorem RdA.lt {X : List Nat} {w : World} {v : Value} {l : List Nat} (h : RdA X w v l) : ∀ x ∈ l, x < 256 := h.choose_spec.choose_spec.2.2.1
theorem sizeOf_u8 (w : World) : (sizeOf 5).run Try.prog w = .ok 1 w := by kernel_rfl
/-- Bytes from the k-th on. -/
theorem slice_from (p : Option Addr) (n c k : Nat) (hk : k ≤ n) (hc : n ≤ c) : ∃ p' c', (∀ w, (Instr.sliceAt 34 (.slice p n c) (some (.int .i64 (k : Int))) none none).run Try.prog w = .ok (.slice p' (n - k) c') w) ∧ n - k ≤ c' ∧
    ∀ X w l, RdA X w (.slice p n c) l → RdA X w (.slice p' (n - k) c') (l.drop k) := by
  refine ⟨if c = k then p else p.map (·.add (k * 1)), c - k, fun w => ?_, by omega, fun X w l h => ?_⟩
  · have hel : Try.prog.elem 34 = 5 := by kernel_rfl
    have ht : Try.prog.underlying 34 = some (.slice (Try.prog.elem 34)) := by rw [hel]; exact bytes_ty
    have e1 := run_sliceAt_slice (P := Try.prog) (w := w) 34 (.slice p n c) (some (.int .i64 (k : Int))) none none ht
    have e2 := run_slice_l (P := Try.prog) (w := w) 34 p n c ht .i64 (k : Int) (by omega) (by omega)
    rw [e1, e2, hel, sizeOf_u8]
    simp [Result.andThen, sliced]
  · obtain ⟨p', c', h1, h2, h3, h4⟩ := h
    cases h1
    refine ⟨_, _, by rw [List.length_drop], by rw [List.length_drop]; omega, fun x hx => h3 x (List.mem_of_mem_drop hx), fun hl => ?_⟩
    have hlt : k < l.length := by
      rcases Nat.lt_or_ge k l.length with h | h
      · exact h
      · exact absurd (List.drop_eq_nil_of_le h) hl
    obtain ⟨b, o, rfl, h6, h7, h8⟩ := h4 (by intro e; subst e; simp at hlt)
    refine ⟨b, o + k, ?_, h6, h7, fun i hi => ?_⟩
    · rw [if_neg (by omega)]
      simp [Addr.add]
    · rw [List.length_drop] at hi
      rw [Nat.add_assoc, h8 (k + i) (by omega)]
      simp
theorem slice_keep {X : List Nat} {w : World} {v : Value} {l : List Nat} (h : RdA X w v l) : ∃ p n c, v = .slice p n c := by
  obtain ⟨p, c, h, _⟩ := h; exact ⟨p, _, c, h⟩
theorem RdA.from_ne {X : List Nat} {w : World} {b o n c : Nat} {l : List Nat} (k : Nat) (h : RdA X w (.slice (some ⟨b, o, none⟩) n c) l) (hk : k ≤ n) : RdA X w (.slice (some ⟨b, o + k, none⟩) (n - k) (c - k)) (l.drop k) := by
  obtain ⟨p', c', h1, h2, h3, h4⟩ := h
  cases h1
  refine ⟨_, _, by rw [List.length_drop], by rw [List.length_drop]; omega, fun x hx => h3 x (List.mem_of_mem_drop hx), fun hl => ?_⟩
  have hlt : k < l.length := by
    rcases Nat.lt_or_ge k l.length with h | h
    · exact h
    · exact absurd (List.drop_eq_nil_of_le h) hl
  obtain ⟨b', o', h5, h6, h7, h8⟩ := h4 (by intro e; subst e; simp at hlt)
  cases h5
  refine ⟨b, o + k, rfl, h6, h7, fun i hi => ?_⟩
  rw [List.length_drop] at hi
  rw [Nat.add_assoc, h8 (k + i) (by omega)]
  simp
theorem RdA.gone {X : List Nat} {w : World} {p q : Option Addr} {n c m k : Nat} {l : List Nat} (h : RdA X w (.slice p n c) l) (hk : n ≤ k) : RdA X w (.slice q 0 m) (l.drop k) := by
  rw [List.drop_eq_nil_of_le (by rw [← h.len]; exact hk)]
  exact ⟨q, m, rfl, Nat.zero_le _, by simp, fun h => absurd rfl h⟩
theorem RdA.from_eq {X : List Nat} {w : World} {p q : Option Addr} {n k : Nat} {l : List Nat} (h : RdA X w (.slice p n k) l) : RdA X w (.slice q (n - k) 0) (l.drop k) := by
  obtain ⟨p', c', h1, h2, h3, h4⟩ := h
  cases h1
  rw [List.drop_eq_nil_of_le h2, Nat.sub_eq_zero_of_le h2]
  exact ⟨q, 0, rfl, Nat.le_refl _, by simp, fun h => absurd rfl h⟩
theorem RdA.from_if {X : List Nat} {w : World} {b o n c : Nat} {l : List Nat} (k : Nat) (h : RdA X w (.slice (some ⟨b, o, none⟩) n c) l) (hk : k ≤ n) : RdA X w (.slice (if c = k then some ⟨b, o, none⟩ else some ⟨b, o + k, none⟩) (n - k) (c - k)) (l.drop k) := by
  by_cases hc : c = k
  · rw [if_pos hc]; subst hc
    rw [Nat.sub_self]
    exact h.from_eq
  · rw [if_neg hc]; exact h.from_ne k hk
/-- A slice of these bytes in memory that the call made. -/
def RdF (w w' : World) (u : Value) (l : List Nat) : Prop := ∀ X, (∀ x ∈ X, x < w.heap.size) → RdA X w' u l
theorem RdB.rdA' {w : World} (h : RdB w (.slice none 0 0) []) (X : List Nat) : RdA X w (.slice none 0 0) [] := ⟨none, 0, rfl, Nat.le_refl _, by simp, fun h => absurd rfl h⟩
theorem nb_ne {l : List Nat} {i : Nat} {u : Value} (h : (nb l)[i]? = some u) : i < l.length ∧ u = .int .u8 ((l.getD i 0 : Nat) : Int) := by
  have hi : i < l.length := by
    have := (List.getElem?_eq_some_iff.1 h).1
    rwa [nb_length] at this
  rw [nb_get hi] at h
  exact ⟨hi, (Option.some.inj h).symm⟩
theorem RdF.own {w w' : World} {v : Value} {l : List Nat} (h : w'.ownsRow w.heap.size 5 1 v l.length (nb l)) (hl : ∀ x ∈ l, x < 256) : RdF w w' v l := by
  intro X hX
  obtain ⟨h1, h2⟩ := h
  rcases h2 with ⟨rfl, h0⟩ | ⟨g, cap, cur, rfl, hg, hb, hn, _, hcs, htk⟩
  · have : l = [] := List.length_eq_zero_iff.1 h0
    subst this
    exact (RdB.nil w').rdA' X
  · refine ⟨some ⟨g, 0, none⟩, cap, rfl, hn, hl, fun _ => ⟨g, 0, rfl, (Array.getElem?_eq_some_iff.1 hb).1, fun hm => by have := hX _ hm; omega, fun i hi => ?_⟩⟩
    have hB : Blk w' g 5 cur := hb
    rw [Nat.zero_add, hB.cell (v := .int .u8 ((l.getD i 0 : Nat) : Int))]
    have e := congrArg (fun x => x[i]?) htk
    simp only [Nat.mul_one, List.getElem?_take, hi, if_true, nb_get hi] at e
    simpa using e
theorem St.apart2 {bs : List Nat} {w0 w : World} {L : List Ent} {e f : Ent} (h : St bs w0 w (e :: f :: L)) : e.1 ≠ f.1 := (List.pairwise_cons.1 h.apart).1 f List.mem_cons_self
theorem St.of_two {w w' : World} {b b2 : Nat} {t t2 : TypeId} {c c2 : Array Value} (hT : Tch [] w w') (h : Blk w' b t c) (h2 : Blk w' b2 t2 c2) (hn : b ≠ b2) (hb : w.heap.size ≤ b) (hb2 : w.heap.size ≤ b2) : St [] w w' [(b, t, c), (b2, t2, c2)] :=
  ⟨hT, fun e he => by
    rcases List.mem_cons.1 he with rfl | he
    · exact ⟨h, .inl hb⟩
    · rcases List.mem_singleton.1 he with rfl; exact ⟨h2, .inl hb2⟩, List.pairwise_cons.2 ⟨fun e he => by rcases List.mem_singleton.1 he with rfl; exact hn, List.pairwise_singleton _ _⟩⟩
theorem Tch.fresh {w a b : World} {bs : List Nat} (h : Tch [] w a) (k : Tch bs a b) (hb : ∀ x ∈ bs, w.heap.size ≤ x) : Tch [] w b :=
  (h.mono (by simp)).trans (k.mono (cs := bs) (fun x hx => .inl hx)) |>.mono (fun x hx => .inr (hb x hx))
theorem strB_list (l : List Nat) : (strB l).toList = l.map UInt8.ofNat := by
  rw [ByteArray.toList_eq]; rfl
theorem ofNat_inj : ∀ {a b : List Nat}, (∀ x ∈ a, x < 256) → (∀ x ∈ b, x < 256) → a.map UInt8.ofNat = b.map UInt8.ofNat → a = b
  | [], [], _, _, _ => rfl
  | [], _ :: _, _, _, h => by simp at h
  | _ :: _, [], _, _, h => by simp at h
  | x :: r, y :: s, ha, hb, h => by
    simp only [List.map_cons, List.cons.injEq] at h
    have h1 := congrArg UInt8.toNat h.1
    have hx := ha x List.mem_cons_self
    have hy := hb y List.mem_cons_self
    simp [Nat.mod_eq_of_lt hx, Nat.mod_eq_of_lt hy] at h1
    rw [h1, ofNat_inj (fun z hz => ha z (List.mem_cons_of_mem _ hz)) (fun z hz => hb z (List.mem_cons_of_mem _ hz)) h.2]
theorem strB_eq {a b : List Nat} (ha : ∀ x ∈ a, x < 256) (hb : ∀ x ∈ b, x < 256) : ((strB a).toList == (strB b).toList) = (a == b) := by
  rw [strB_list, strB_list]
  by_cases h : a = b
  · subst h; simp
  · have h1 : ¬ a.map UInt8.ofNat = b.map UInt8.ofNat := fun e => h (ofNat_inj ha hb e)
    rw [beq_eq_false_iff_ne.2 h1, beq_eq_false_iff_ne.2 h]
theorem append_nil_nil (ty : TypeId) (c : Nat) (w : World) : (Builtin.append_ #[34, 34] ty #[.slice none 0 0, .slice none 0 c]).run Try.prog w = .ok (.slice none 0 0) w := by
  obtain ⟨i, hi, hz, hs, hb⟩ := info_parts A_info
  simp [Builtin.append_, run_underlying bytes_ty, sizeOf, typeInfo, hi, storeCells, Builtin.lenOf, Builtin.firstCells]
/-- append([]byte(nil), v...). -/
theorem st_cloneB {ops : Array Oper} {rest : List Oper} {o : Oper} {a : Act} {w : World} {Q : Exit → Act → World → Prop} {v : Value} {l : List Nat} (hgd : o.guard = none) (s x : Operand)
    (ho : o.op = .call { callee := .builtin .append, args := #[s, x], argTypes := #[34, 34] }) (hs : a.eval s = .slice none 0 0) (hx : a.eval x = v) (hv : RdA [] w v l) (hl : l.length ≤ 100000000)
    (h : ∀ v' w', w'.ownsRow w.heap.size 5 1 v' l.length (nb l) → Tch [] w w' → wpList Try.prog ops Q rest (a.put o.dst v') w') : wpList Try.prog ops Q (o :: rest) a w := by
  obtain ⟨i0, hi, hz0, hz1, hz2⟩ := info_parts A_info
  obtain ⟨p, c, rfl, hlc, hb, h4⟩ := hv
  cases p with
  | none =>
    have hl0 : l = [] := by
      cases l with
      | nil => rfl
      | cons x r => obtain ⟨_, _, h, _⟩ := h4 (by simp); cases h
    subst hl0
    refine wpList_plain hgd fun K hK => ?_
    unfold Oper.wp execOp
    simp only [ho, resolve, invoke, builtin, Sem.run_bind, Sem.run_pure, Result.andThen_ok, List.map_toArray, List.map_cons, List.map_nil, hs, hx, List.length_nil, append_nil_nil]
    exact hK _ _ (h _ _ ⟨rfl, .inl ⟨rfl, rfl⟩⟩ (Tch.refl _ _))
  | some ad =>
    refine wpList_append_own w hgd s x 34 ho w.heap.size 5 i0 (.int .u8 0) 1 1 bytes_ty hi hz0 hz1 hz2 rfl (by decide) _ _ _ hs (World.ownsRow_nil w _ _ _) ad l.length c (nb l) hx (by rw [nb_length, Nat.mul_one]) ?_ (fun u hu => by obtain ⟨x, _, rfl⟩ := List.mem_map.1 hu; rfl) (by unfold maxLen; omega) (by omega) (Nat.le_refl _) ?_
    · intro j u hu
      obtain ⟨hj, rfl⟩ := nb_ne hu
      obtain ⟨b, o, h5, h6, _, h7⟩ := h4 (by intro e; subst e; simp at hj)
      cases h5
      have hadd : (⟨b, o, none⟩ : Addr).add j = ⟨b, o + j, none⟩ := by unfold Addr.add; split <;> simp_all
      rw [hadd]; exact h7 j hj
    · intro v' w' hown hgrow _
      rw [Nat.zero_add, List.nil_append] at hown
      exact h v' w' hown ⟨hgrow.os, hgrow.tape, hgrow.output, hgrow.size, fun k hk _ => hgrow.block k hk (by simp [Value.ownBlock])⟩
theorem st_from {P : Program} {ops : Array Oper} {rest : List Oper} {o : Oper} {a : Act} {w : World} {Q : Exit → Act → World → Prop} {v l r : Value} (hgd : o.guard = none) (ty : TypeId) (x lo : Operand) (ho : o.op = .slice ty x (some lo) none none) (hx : a.eval x = v) (hl : a.eval lo = l)
    (hr : ∀ w, (Instr.sliceAt ty v (some l) none none).run P w = .ok r w) (h : wpList P ops Q rest (a.put o.dst r) w) : wpList P ops Q (o :: rest) a w :=
  wpList_plain hgd fun K hK => by
    unfold Oper.wp execOp
    simp only [ho, hx, hl, Option.map_some, Option.map_none, Sem.run_bind, hr, Result.andThen_ok, Sem.run_pure]
    exact hK _ _ h
theorem RdA.ofBlk {X : List Nat} {w : World} {b : Nat} {l : List Nat} (h : Blk w b 5 (bc l.length fun i => l.getD i 0)) (hl : ∀ x ∈ l, x < 256) (hb : b ∉ X) : RdA X w (.slice (some ⟨b, 0, none⟩) l.length l.length) l :=
  ⟨_, _, rfl, Nat.le_refl _, hl, fun _ => ⟨b, 0, rfl, h.lt, hb, fun i hi => by rw [Nat.zero_add]; exact h.cell (bc_get hi)⟩⟩
theorem sizeOf_one {e n : Nat} (h : (Try.prog.info? e).map (·.size) = some n) (w : World) : (sizeOf e).run Try.prog w = .ok n w := by
  cases hq : Try.prog.info? e with
  | none => simp [hq] at h
  | some i =>
    have hs : i.size = n := by simpa [hq] using h
    simp [sizeOf, typeInfo, hq, hs]
/-- What is quiet in a class of worlds, in the text's own order. -/
theorem wpList_of_quiet {P : Program} {ops : Array Oper} {C : World → Prop} {Q : Exit → Act → World → Prop} : ∀ (l : List Oper) (a : Act) (w : World), C w → wpQuiet P ops C (fun a' => ∀ w', C w' → Q .normal a' w') l a → wpList P ops Q l a w
  | [], a, w, hC, h => h w hC
  | o :: rest, a, w, hC, h => by
    unfold wpQuiet at h
    unfold wpList
    split
    · rename_i hw
      rw [if_pos hw] at h
      exact .inl (Oper.wp_of_quiet hC (fun a w' hw' hK => wpList_of_quiet rest a w' hw' hK) h)
    · rename_i hw
      rw [if_neg hw] at h
      exact wpList_of_quiet rest _ w hC h
/-- A region in the text's order, all of it quiet. -/
theorem k_seq {id : Nat} {Q : Exit → Act → World → Prop} {a : Act} {w : World} {l : List Oper} {C : World → Prop} (hC : C w)
    (h : KQ l.toArray C (fun a' => ∀ w', C w' → Q .normal a' w') l a) : (Code.region id l.toArray false).wp Try.prog Q a w :=
  wp_region_lit (wpList_of_quiet l a w hC h.go)
section
variable {o : Oper} {a : Act} {ops : Array Oper} {rest : List Oper} {C : World → Prop} {Q : Act → Prop}
theorem k_in {v : Value} (hw : Region.wanted o (yielded ops a.tmps) = true) (hr : ∀ w, C w → (execOp a.eval o).run Try.prog w = .ok (.value v) w) (h : KQ ops C Q rest (a.put o.dst v)) : KQ ops C Q (o :: rest) a := by
  constructor
  unfold wpQuiet
  rw [if_pos hw]
  exact ⟨v, fun w hC => by unfold Oper.quietAt; rw [hr w hC]; exact ⟨rfl, rfl⟩, h.go⟩
/-- A call in the class. -/
theorem k_callC {v : Value} {f : FuncId} {ts : Array TypeId} {xs : Array Operand} {args : Array Value} (hw : Region.wanted o (yielded ops a.tmps) = true) (ho : o.op = .call { callee := .value (.func f), args := xs, argTypes := ts }) (ha : xs.map a.eval = args)
    (hf : ∀ args w, (callFunc f args).run Try.prog w = .ok (.enter f args) w) (hc : ∀ w, C w → Calls Try.prog f args w fun e w' => e = .returned v ∧ C w')
    (h : KQ ops C Q rest (a.put o.dst v)) : KQ ops C Q (o :: rest) a := by
  constructor
  unfold wpQuiet
  rw [if_pos hw]
  refine ⟨v, fun w hC => ?_, h.go⟩
  have hr : (execOp a.eval o).run Try.prog w = .ok (.enter f args) w := by
    unfold execOp; simp [ho, resolve, invoke, ha, hf, show a.eval (.func f) = .func (.func f) #[] #[] from rfl, Deferred.ofValue]
  unfold Oper.quietAt
  rw [hr]
  exact ⟨rfl, hc w hC⟩
/-- A call of two arguments, in the class. -/
theorem k_callC2 {v v1 v2 : Value} {f : FuncId} {ts : Array TypeId} {x1 x2 : Operand} (hw : Region.wanted o (yielded ops a.tmps) = true) (ho : o.op = .call { callee := .value (.func f), args := #[x1, x2], argTypes := ts }) (h1 : a.eval x1 = v1) (h2 : a.eval x2 = v2)
    (hf : ∀ args w, (callFunc f args).run Try.prog w = .ok (.enter f args) w) (hc : ∀ w, C w → Calls Try.prog f #[v1, v2] w fun e w' => e = .returned v ∧ C w')
    (h : KQ ops C Q rest (a.put o.dst v)) : KQ ops C Q (o :: rest) a := k_callC hw ho (by simp [h1, h2]) hf hc h
/-- Integers that differ. -/
theorem k_neqs {m n : Int} {t : Bool} (hw : Region.wanted o (yielded ops a.tmps) = true) (xo yo : Operand) (yt : TypeId) (ho : o.op = .binOp .neq 3 xo yo yt)
    (hxe : a.eval xo = .int .i64 m) (hye : a.eval yo = .int .i64 n) (hxy : (m != n) = t) (h : KQ ops C Q rest (a.put o.dst (.bool t))) : KQ ops C Q (o :: rest) a :=
  k_pure hw (fun w => by unfold execOp; simp only [ho, hxe, hye]; show Sem.run _ _ w = _; simp [eqGuard, binOp, Op.intCmp, ← hxy, bne]) h
/-- Bytes as a text. -/
theorem k_conv {v : Value} {l : List Nat} (hw : Region.wanted o (yielded ops a.tmps) = true) (x : Operand) (ho : o.op = .convert 34 9 x) (hx : a.eval x = v) (hv : ∀ w, C w → RdB w v l)
    (h : KQ ops C Q rest (a.put o.dst (.string (strB l)))) : KQ ops C Q (o :: rest) a :=
  k_in hw (fun w hC => by
    unfold execOp
    simp only [ho, hx, Sem.run_bind, conv_rd (hv w hC), Result.andThen_ok, Sem.run_pure]) h
/-- A text held against itself. -/
theorem k_strS {s : ByteArray} (hw : Region.wanted o (yielded ops a.tmps) = true) (x y : Operand) (yt : TypeId) (ho : o.op = .binOp .eql 9 x y yt) (hx : a.eval x = .string s) (hy : a.eval y = .string s)
    (h : KQ ops C Q rest (a.put o.dst (.bool true))) : KQ ops C Q (o :: rest) a :=
  k_pure hw (fun w => by unfold execOp; simp only [ho, hx, hy]; show Sem.run _ _ w = _; simp [eqGuard, binOp, Op.stringOp]) h
/-- The length of a text. -/
theorem k_lenS {s : ByteArray} (hw : Region.wanted o (yielded ops a.tmps) = true) (x : Operand) (ho : o.op = .call { callee := .builtin .len, args := #[x], argTypes := #[9] }) (hx : a.eval x = .string s)
    (h : KQ ops C Q rest (a.put o.dst (.int .i64 (s.size : Int)))) : KQ ops C Q (o :: rest) a :=
  k_pure hw (fun w => by unfold execOp; simp [ho, resolve, invoke, builtin, hx, Builtin.len_, run_underlying string_ty, goInt]) h
/-- The place of a slice's element. -/
theorem k_idxSl {b off j n c e : Nat} (hw : Region.wanted o (yielded ops a.tmps) = true) (ty : TypeId) (x y : Operand) (ho : o.op = .indexAddr ty x y) (hx : a.eval x = .slice (some ⟨b, off, none⟩) n c) (hy : a.eval y = .int .i64 (j : Int)) (hu : Try.prog.underlying ty = some (.slice e)) (he : (Try.prog.info? e).map (·.size) = some 1) (hj : j < n)
    (h : KQ ops C Q rest (a.put o.dst (.pointer (some ⟨b, off + j, none⟩)))) : KQ ops C Q (o :: rest) a :=
  k_pure hw (fun w => by
    have hadd : (⟨b, off, none⟩ : Addr).add j = ⟨b, off + j, none⟩ := by unfold Addr.add; split <;> simp_all
    unfold execOp
    simp [ho, hx, hy, Instr.indexAt, run_underlying hu, Instr.sureAddr, asIntOf, sizeOf_one he, hj, hadd]) h
/-- One cell is loaded, in worlds that hold it. -/
theorem k_cellC {b j : Nat} {v : Value} (hw : Region.wanted o (yielded ops a.tmps) = true) (ty : TypeId) (x : Operand) (ho : o.op = .load ty x) (hx : a.eval x = .pointer (some ⟨b, j, none⟩)) (hv : ∀ w, C w → w.cell? ⟨b, j, none⟩ = some v) (hu : ∀ w, (isAgg ty).run Try.prog w = .ok false w)
    (h : KQ ops C Q rest (a.put o.dst v)) : KQ ops C Q (o :: rest) a :=
  k_in hw (fun w hC => by
    unfold execOp
    simp only [ho, hx, Instr.loadAt, Instr.sureAddr, loadVar, Sem.run_bind, hu, Result.andThen_ok, Sem.run_pure, Bool.false_eq_true, if_false, run_load, hv w hC]) h
/-- A call of one argument, in the class. -/
theorem k_callC1 {v v1 : Value} {f : FuncId} {ts : Array TypeId} {x1 : Operand} (hw : Region.wanted o (yielded ops a.tmps) = true) (ho : o.op = .call { callee := .value (.func f), args := #[x1], argTypes := ts }) (h1 : a.eval x1 = v1)
    (hf : ∀ args w, (callFunc f args).run Try.prog w = .ok (.enter f args) w) (hc : ∀ w, C w → Calls Try.prog f #[v1] w fun e w' => e = .returned v ∧ C w')
    (h : KQ ops C Q rest (a.put o.dst v)) : KQ ops C Q (o :: rest) a := k_callC hw ho (by simp [h1]) hf hc h
/-- A bool held against itself. -/
theorem k_boolsS {s : Bool} (hw : Region.wanted o (yielded ops a.tmps) = true) (xo yo : Operand) (yt : TypeId) (ho : o.op = .binOp .eql 4 xo yo yt) (hxe : a.eval xo = .bool s) (hye : a.eval yo = .bool s)
    (h : KQ ops C Q rest (a.put o.dst (.bool true))) : KQ ops C Q (o :: rest) a := k_bools hw xo yo yt ho hxe hye (by rw [beq_self_eq_true]; exact h)
theorem k_lenSl {p : Option Addr} {n c : Nat} (hw : Region.wanted o (yielded ops a.tmps) = true) (x : Operand) (ho : o.op = .call { callee := .builtin .len, args := #[x], argTypes := #[34] }) (hx : a.eval x = .slice p n c)
    (h : KQ ops C Q rest (a.put o.dst (.int .i64 (n : Int)))) : KQ ops C Q (o :: rest) a :=
  k_pure hw (fun w => by unfold execOp; simp [ho, resolve, invoke, builtin, hx, Builtin.len_, run_underlying bytes_ty, goInt]) h
theorem k_slice {p : Option Addr} {l c : Nat} (hw : Region.wanted o (yielded ops a.tmps) = true) (xo : Operand) (ho : o.op = .move xo) (hx : a.eval xo = .slice p l c)
    (h : KQ ops C Q rest (a.put o.dst (.slice p l c))) : KQ ops C Q (o :: rest) a := k_val hw xo (.inl ho) hx h
end
theorem string_agg (w : World) : (isAgg 9).run Try.prog w = .ok false w := by simp [isAgg, run_underlying string_ty]
theorem bool_agg (w : World) : (isAgg 4).run Try.prog w = .ok false w := by simp [isAgg, run_underlying bool_ty]
/-- One cell is loaded, out of a block known whole. -/
theorem st_cell1 {ops : Array Oper} {rest : List Oper} {o : Oper} {a : Act} {bs : List Nat} {w0 w : World} {Q : Exit → Act → World → Prop} {L : List Ent} {b j : Nat} {t : TypeId} {c : Array Value} {v : Value} (hS : St bs w0 w L) (hgd : o.guard = none) (ty : TypeId) (x : Operand) (ho : o.op = .load ty x) (hx : a.eval x = .pointer (some ⟨b, j, none⟩)) (m : At L b t c) (hv : c[j]? = some v)
    (hu : ∀ w, (isAgg ty).run Try.prog w = .ok false w) (h : wpList Try.prog ops Q rest (a.put o.dst v) w) : wpList Try.prog ops Q (o :: rest) a w :=
  wpList_plain hgd fun K hK => by
    have hl : w.cell? ⟨b, j, none⟩ = some v := (hS.get m).cell hv
    unfold Oper.wp execOp
    simp only [ho, hx, Instr.loadAt, Instr.sureAddr, loadVar, Sem.run_bind, hu, Result.andThen_ok, Sem.run_pure, Bool.false_eq_true, if_false, run_load, hl]
    exact hK _ _ h
/-- A slice is built. -/
theorem st_build {ops : Array Oper} {rest : List Oper} {o : Oper} {a : Act} {bs : List Nat} {w0 w : World} {Q : Exit → Act → World → Prop} {L : List Ent} {n : Nat} {t : TypeId} {c : Array Value} (hS : St bs w0 w L) (hgd : o.guard = none)
    (hr : ∀ w : World, (execOp a.eval o).run Try.prog w = .ok (.value (.slice (some ⟨w.heap.size, 0, none⟩) n n)) (w.alloc (.cells c t)))
    (h : ∀ w' b, St bs w0 w' ((b, t, c) :: L) → wpList Try.prog ops Q rest (a.put o.dst (.slice (some ⟨b, 0, none⟩) n n)) w') : wpList Try.prog ops Q (o :: rest) a w :=
  wpList_plain hgd fun K hK => by
    unfold Oper.wp
    rw [hr w]
    exact hK _ _ (h _ _ (hS.new t c))
end Go.Proofs.Ytklpcppdjcedpaa
