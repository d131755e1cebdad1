/- Bytes in memory: cells that are bytes, slices that read as bytes, their making. -/
import Derived.Test.YtklpcppdjcedpaaA1
import Derived.Lib.OthersKept
import Derived.Laws.AppendOwn
import Derived.Laws.BytesString
import Derived.Laws.IdiomStrings
set_option linter.unusedVariables false
set_option linter.unusedSimpArgs false
namespace Go.Proofs.Ytklpcppdjcedpaa
open Go.RowKit

theorem size_data (s : ByteArray) : s.size = s.data.toList.length := by simp
theorem get_data (s : ByteArray) (i : Nat) (h : i < s.size) : s.data.toList[i]? = some s[i] := by
  have : i < s.data.toList.length := by simpa using h
  rw [List.getElem?_eq_getElem this]; rfl
/-- Cells that are bytes. -/
def bc (n : Nat) (f : Nat → Nat) : Array Value := ((List.range n).map fun i => Value.int .u8 ((f i : Nat) : Int)).toArray
theorem bc_wf (f : Nat → Nat) : bc 32 f = wf f := rfl
theorem bc_size (n : Nat) (f : Nat → Nat) : (bc n f).size = n := by simp [bc]
theorem bc_get {n : Nat} {f : Nat → Nat} {i : Nat} (h : i < n) : (bc n f)[i]? = some (Value.int .u8 ((f i : Nat) : Int)) := by simp [bc, h]
theorem bc_none {n : Nat} {f : Nat → Nat} {i : Nat} (h : n ≤ i) : (bc n f)[i]? = none := by rw [Array.getElem?_eq_none]; rw [bc_size]; exact h
theorem bc_set {n : Nat} {f : Nat → Nat} {k v : Nat} (h : k < n) : (bc n f).setIfInBounds k (.int .u8 (v : Int)) = bc n (fun i => if i = k then v else f i) := by
  apply Array.ext_getElem?
  intro i
  rw [Array.getElem?_setIfInBounds]
  by_cases hi : i < n
  · rw [bc_get hi, bc_get hi]
    by_cases hk : k = i
    · subst hk; simp [bc_size, h]
    · rw [if_neg hk, if_neg (fun e => hk e.symm)]
  · rw [bc_none (by omega), bc_none (by omega), if_neg (by omega)]
theorem bc_congr {n : Nat} {f g : Nat → Nat} (h : ∀ i, i < n → f i = g i) : bc n f = bc n g := by
  apply Array.ext_getElem?
  intro i
  by_cases hi : i < n
  · rw [bc_get hi, bc_get hi, h i hi]
  · rw [bc_none (by omega), bc_none (by omega)]
theorem bc_one (n : Nat) (f : Nat → Nat) : (bc n f).all (·.oneCell') = true := by
  rw [Array.all_eq_true_iff_forall_mem]
  intro x hx
  unfold bc at hx
  rw [List.mem_toArray] at hx
  obtain ⟨i, _, rfl⟩ := List.mem_map.1 hx
  rfl
theorem u8_size : (Try.prog.info? 5).map (·.size) = some 1 := by kernel_rfl
theorem St.iterAt {bs : List Nat} {w0 w : World} {L : List Ent} {k : Nat} {s : ByteArray} {p : Nat} (h : St bs w0 w L) (hk : w.heap[k]? = some (.stringIter s p)) (hk0 : w0.heap.size ≤ k) (p' : Nat) : St bs w0 (w.iterAt k s p') L :=
  ⟨⟨h.frame.os, h.frame.tape, h.frame.output, by rw [Lib.iterAt_size]; exact h.frame.size, fun i hi hb => by
      rw [Lib.iterAt_other w k i s p' (by omega)]; exact h.frame.block i hi hb⟩, fun e he => ⟨by
      have hb := (h.blk e he).1
      unfold Blk at hb ⊢
      rw [Lib.iterAt_other w k e.1 s p' (fun e1 => by rw [e1, hk] at hb; cases hb)]; exact hb, (h.blk e he).2⟩, h.apart⟩
theorem St.alloc {bs : List Nat} {w0 w : World} {L : List Ent} (h : St bs w0 w L) (o : Obj) : St bs w0 (w.alloc o) L :=
  ⟨h.frame.alloc o, fun e he => ⟨(h.blk e he).1.alloc o, (h.blk e he).2⟩, h.apart⟩
theorem St.lose {bs : List Nat} {w0 w w' : World} {L : List Ent} {b : Nat} {t : TypeId} {c : Array Value} (h : St bs w0 w ((b, t, c) :: L)) (hT : Tch [b] w w') : St bs w0 w' L :=
  ⟨⟨hT.os.trans h.frame.os, hT.tape.trans h.frame.tape, hT.output.trans h.frame.output, Nat.le_trans h.frame.size hT.size, fun k hk hkb => by
      have hkw : k < w.heap.size := Nat.lt_of_lt_of_le hk h.frame.size
      refine (hT.block k hkw fun hm => ?_).trans (h.frame.block k hk hkb)
      obtain rfl : k = b := by simpa using hm
      rcases h.own .head with h1 | h1
      · omega
      · exact hkb h1⟩, fun e he => by
    have hne : e.1 ≠ b := fun e1 => (List.pairwise_cons.1 h.apart).1 e he e1.symm
    have := h.blk e (List.mem_cons_of_mem _ he)
    exact ⟨hT.blk this.1 (by simpa using hne), this.2⟩, (List.pairwise_cons.1 h.apart).2⟩
theorem only_heap {w w' : World} {b k : Nat} {o : Obj} (hO : Only b w w') (hk : w.heap[k]? = some o) (hkb : k ≠ b) : w'.heap[k]? = some o := by rw [hO.block k hkb]; exact hk
/-- A number is stored into one cell; the world behind it is told, and that other blocks are as they were. -/
theorem st_store1o {P : Program} {ops : Array Oper} {rest : List Oper} {o : Oper} {a : Act} {bs : List Nat} {w0 w : World} {Q : Exit → Act → World → Prop} {L L' : List Ent} {b : Nat} {t : TypeId} {c : Array Value} {k : IntKind} {n : Int} {j : Nat} (hS : St bs w0 w L) (hgd : o.guard = none) (ty : TypeId) (x y : Operand) (ho : o.op = .store ty x y) (hx : a.eval x = .pointer (some ⟨b, j, none⟩)) (hy : a.eval y = .int k n) (hi : (P.info? ty).map (·.size) = some 1)
    (m : Upd L b t c (c.setIfInBounds j (.int k n)) L') (hj : j < c.size)
    (h : ∀ w', St bs w0 w' L' → Only b w w' → wpList P ops Q rest (a.put o.dst undef) w') : wpList P ops Q (o :: rest) a w :=
  arm_store_int hgd ty x y ho hx hy hi (hS.get m.at_) hj fun w' hB hO => h w' (hS.upd m hO hB) hO
/-- Bytes as cells. -/
def nb (l : List Nat) : List Value := l.map fun x => Value.int .u8 ((x : Nat) : Int)
theorem nb_length (l : List Nat) : (nb l).length = l.length := by simp [nb]
theorem nb_snoc (l : List Nat) (x : Nat) : nb (l ++ [x]) = nb l ++ [.int .u8 (x : Int)] := by simp [nb]
theorem nb_get {l : List Nat} {i : Nat} (h : i < l.length) : (nb l)[i]? = some (.int .u8 ((l.getD i 0 : Nat) : Int)) := by simp [nb, h]
/-- A value that is a slice of these bytes. -/
def RdB (w : World) (v : Value) (l : List Nat) : Prop := ∃ p c, v = .slice p l.length c ∧ l.length ≤ c ∧ (∀ x ∈ l, x < 256) ∧ (l ≠ [] → ∃ b o, p = some ⟨b, o, none⟩ ∧ b < w.heap.size ∧ ∀ i, i < l.length → w.cell? ⟨b, o + i, none⟩ = some (.int .u8 ((l.getD i 0 : Nat) : Int)))
theorem RdB.tch {bs : List Nat} {w w' : World} {v : Value} {l : List Nat} (h : RdB w v l) (hT : Tch bs w w') (hb : ∀ x ∈ bs, w.heap.size ≤ x) : RdB w' v l := by
  obtain ⟨p, c, h1, h2, h3, h4⟩ := h
  refine ⟨p, c, h1, h2, h3, fun hl => ?_⟩
  obtain ⟨b, o, h5, h6, h7⟩ := h4 hl
  exact ⟨b, o, h5, Nat.lt_of_lt_of_le h6 hT.size, fun i hi => by rw [hT.cell (p := ⟨b, o + i, none⟩) h6 (fun hm => Nat.lt_irrefl b (Nat.lt_of_lt_of_le h6 (hb _ hm)))]; exact h7 i hi⟩
theorem RdB.nil (w : World) : RdB w (.slice none 0 0) [] := ⟨none, 0, rfl, Nat.le_refl _, by simp, fun h => absurd rfl h⟩
theorem RdB.blk {w : World} {b n : Nat} {t : TypeId} {f : Nat → Nat} (h : Blk w b t (bc n f)) (hf : ∀ i, i < n → f i < 256) : RdB w (.slice (some ⟨b, 0, none⟩) n n) ((List.range n).map f) :=
  ⟨some ⟨b, 0, none⟩, n, by simp, by simp, fun x hx => by obtain ⟨i, hi, rfl⟩ := List.mem_map.1 hx; exact hf i (List.mem_range.1 hi), fun _ => ⟨b, 0, rfl, h.lt, fun i hi => by
    have hi' : i < n := by simpa using hi
    rw [Nat.zero_add, h.cell (bc_get hi')]; simp [hi']⟩⟩
theorem RdB.own {w : World} {B n : Nat} {v : Value} {l : List Nat} (h : w.ownsRow B 5 1 v n (nb l)) (hl : ∀ x ∈ l, x < 256) : RdB w v l := by
  obtain ⟨h1, h2⟩ := h
  rw [nb_length, Nat.mul_one] at h1
  subst h1
  rcases h2 with ⟨rfl, h0⟩ | ⟨g, cap, cur, rfl, hg, hb, hn, _, hcs, htk⟩
  · have : l = [] := List.length_eq_zero_iff.1 h0
    subst this
    exact RdB.nil w
  · refine ⟨some ⟨g, 0, none⟩, cap, rfl, hn, hl, fun _ => ⟨g, 0, rfl, (Array.getElem?_eq_some_iff.1 hb).1, fun i hi => ?_⟩⟩
    have hB : Blk w g 5 cur := hb
    rw [Nat.zero_add, hB.cell (v := .int .u8 ((l.getD i 0 : Nat) : Int))]
    have e := congrArg (fun x => x[i]?) htk
    simp only [Nat.mul_one, List.getElem?_take, hi, if_true, nb_get hi] at e
    simpa using e
/-- The text whose bytes they are. -/
def strB (l : List Nat) : ByteArray := ⟨(l.map UInt8.ofNat).toArray⟩
theorem strB_size (l : List Nat) : (strB l).size = l.length := by rw [size_data]; simp [strB]
theorem bytes_ty : Try.prog.underlying 34 = some (.slice 5) := by kernel_rfl
theorem byte_ty : Try.prog.underlying 5 = some (.int .u8) := by kernel_rfl
theorem string_ty : Try.prog.underlying 9 = some .string := by kernel_rfl
theorem conv_rd {w : World} {v : Value} {l : List Nat} (h : RdB w v l) : (convert 34 9 v).run Try.prog w = .ok (.string (strB l)) w := by
  obtain ⟨p, c, rfl, h2, h3, h4⟩ := h
  by_cases hl : l = []
  · subst hl
    cases p with
    | none => rw [run_convert_bytes_string w 34 9 5 none _ c bytes_ty byte_ty string_ty]; rfl
    | some a => exact run_convert_bytes_back w 34 9 5 a c [] bytes_ty byte_ty string_ty (fun j hj => by simp at hj)
  · obtain ⟨b, o, rfl, h6, h7⟩ := h4 hl
    have := run_convert_bytes_back (P := Try.prog) w 34 9 5 ⟨b, o, none⟩ c (l.map UInt8.ofNat) bytes_ty byte_ty string_ty (fun j hj => by
      have hj' : j < l.length := by simpa using hj
      have hadd : (⟨b, o, none⟩ : Addr).add j = ⟨b, o + j, none⟩ := by unfold Addr.add; split <;> simp_all
      have hx : l[j] < 256 := h3 _ (List.getElem_mem hj')
      rw [hadd, h7 j hj']
      simp [hj', Nat.mod_eq_of_lt hx])
    rwa [List.length_map] at this
theorem A_info : (Try.prog.info? 5).map (fun i => (i.zero, i.size, i.bytes)) = some (some (.int .u8 0), 1, 1) := by kernel_rfl
theorem make_bytes (n : Nat) : madeCells (Value.int .u8 0).cells (n * 1) = bc n fun _ => 0 := by
  apply Array.ext_getElem?
  intro i
  have h : madeCells (Value.int .u8 0).cells (n * 1) = Array.replicate n (.int .u8 0) := by
    simp only [madeCells, Value.cells, Nat.mul_one]
    apply Array.ext (by simp)
    intro j h1 h2
    simp [Nat.mod_one]
  rw [h]
  by_cases hi : i < n
  · rw [bc_get hi]; simp [hi]
  · rw [bc_none (by omega)]; simp [hi]
/-- Bytes are made, all of them 0. -/
theorem st_makeB {ops : Array Oper} {rest : List Oper} {o : Oper} {a : Act} {bs : List Nat} {w0 w : World} {Q : Exit → Act → World → Prop} {L : List Ent} (n : Nat) (hS : St bs w0 w L) (hgd : o.guard = none) (x y : Operand) (ho : o.op = .makeSlice 34 x y) (hx : a.eval x = .int .i64 (n : Int)) (hy : a.eval y = .int .i64 (n : Int)) (hn : n ≤ 16000000)
    (h : ∀ w' b, St bs w0 w' ((b, 5, bc n fun _ => 0) :: L) → wpList Try.prog ops Q rest (a.put o.dst (.slice (some ⟨b, 0, none⟩) n n)) w') : wpList Try.prog ops Q (o :: rest) a w :=
  wpList_plain hgd fun K hK => by
    obtain ⟨i, hi, hz, hs, hb⟩ := info_parts A_info
    have hr := run_makeSlice (P := Try.prog) w 34 5 i (.int .u8 0) bytes_ty hi hz .i64 .i64 n n (by omega) (by omega) (by rw [hs]; simp; omega) (by rw [hb]; omega) (by omega)
    rw [hs, Int.toNat_natCast, make_bytes] at hr
    unfold Oper.wp execOp
    simp only [ho, hx, hy, Sem.run_bind, hr, Result.andThen_ok, Sem.run_pure]
    exact hK _ _ (h _ _ (hS.new 5 _))
end Go.Proofs.Ytklpcppdjcedpaa
