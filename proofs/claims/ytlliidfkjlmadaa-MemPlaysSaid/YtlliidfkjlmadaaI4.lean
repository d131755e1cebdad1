/- Bytes out of a memory and into it: Get, Cut, Put, the program's and the document's. -/
import Derived.Test.YtlliidfkjlmadaaI3
set_option linter.unusedVariables false
set_option linter.unusedSimpArgs false
namespace Go.Proofs.Ytlliidfkjlmadaa
open Go.RowKit
set_option maxRecDepth 100000
set_option maxHeartbeats 1000000

/-- n bytes from at on, noughts behind the end. -/
def cutL (L : List Nat) (k n : Nat) : List Nat := (List.range n).map fun i => L.getD (k + i) 0
def getL (L : List Nat) (k n : Int) : List Nat := if k < 0 ∨ n < 0 ∨ 1048576 < n then [] else cutL L k.toNat n.toNat
/-- M laid over L from k on. -/
def putL (L : List Nat) (k : Nat) (M : List Nat) : List Nat := L.take k ++ M ++ L.drop (k + M.length)
theorem putL_len {L M : List Nat} {k : Nat} (h : k + M.length ≤ L.length) : (putL L k M).length = L.length := by
  unfold putL; simp; omega
theorem cutL_len (L : List Nat) (k n : Nat) : (cutL L k n).length = n := by simp [cutL]
theorem cutL_lt {L : List Nat} (h : ∀ x ∈ L, x < 256) (k n : Nat) : ∀ x ∈ cutL L k n, x < 256 := by
  intro x hx
  obtain ⟨i, _, rfl⟩ := List.mem_map.1 hx
  rw [List.getD_eq_getElem?_getD]
  cases hq : L[k + i]? with
  | none => decide
  | some y => exact h y (List.mem_of_getElem? hq)
theorem own_of_blk {w : World} {B b n : Nat} {f : Nat → Nat} (h : Blk w b 5 (bc n f)) (hB : B ≤ b) (hn : n ≤ maxLen) : w.ownsRow B 5 1 (.slice (some ⟨b, 0, none⟩) n n) ((List.range n).map f).length (nb ((List.range n).map f)) := by
  have e : (bc n f).toList = nb ((List.range n).map f) := by simp [bc, nb]
  refine ⟨by simp [nb], .inr ⟨b, n, _, by simp, hB, h, by simp, hn, by simp [bc_size], ?_⟩⟩
  rw [e, ← nb_length ((List.range n).map f), Nat.mul_one]
  exact List.take_length
/-- As many bytes as there is room for are copied. -/
theorem copy_bytesT {ops : Array Oper} {rest : List Oper} {o : Oper} {a : Act} {w : World} {Q : Exit → Act → World → Prop} {b n0 at_ dl dc : Nat} {t sT : TypeId} {f : Nat → Nat} {v : Value} {l : List Nat} (hB : Blk w b t (bc n0 f)) (hgd : o.guard = none) (d s : Operand)
    (ho : o.op = .call { callee := .builtin .copy, args := #[d, s], argTypes := #[24, sT] }) (hd : a.eval d = .slice (some ⟨b, at_, none⟩) dl dc) (hs : a.eval s = v) (hv : RdB w v l) (hl : at_ + dl ≤ n0)
    (h : ∀ w', Blk w' b t (bc n0 (wr f at_ (l.take dl))) → Only b w w' → wpList Try.prog ops Q rest (a.put o.dst (goInt (l.take dl).length)) w') : wpList Try.prog ops Q (o :: rest) a w := by
  obtain ⟨p, c', rfl, h2, h3, h4⟩ := hv
  by_cases hl0 : l.take dl = []
  · have h0 : l.length = 0 ∨ dl = 0 := by
      have := congrArg List.length hl0
      rw [List.length_take, List.length_nil] at this
      omega
    refine wpList_copy_nothing hgd d s _ sT ho _ bytes_ty u8_size _ _ _ _ _ _ hd hs (by rcases h0 with h0 | h0 <;> simp [h0]) ?_
    have := h w (by rw [hl0, wr_nil]; exact hB) (Only.refl _ _)
    rw [hl0] at this
    exact this
  · obtain ⟨pb, po, rfl, h6, h7⟩ := h4 (by rintro rfl; simp at hl0)
    have hlen : (l.take dl).length = min l.length dl := by rw [List.length_take, Nat.min_comm]
    refine wpList_copy_own hgd d s 24 sT ho 5 bytes_ty u8_size b at_ dl dc ⟨pb, po, none⟩ l.length c' hd hs (bc n0 f) t hB (nb (l.take dl)) (by rw [nb_length, hlen]) (fun j u hj => ?_) (by rw [nb_length, bc_size, hlen]; omega) (fun u hu => ?_) ?_
    · have hj' : j < (l.take dl).length := by
        have := (List.getElem?_eq_some_iff.1 hj).1
        rwa [nb_length] at this
      have hj2 : j < l.length := by omega
      have hadd : (⟨pb, po, none⟩ : Addr).add j = ⟨pb, po + j, none⟩ := by unfold Addr.add; split <;> simp_all
      rw [hadd, h7 j hj2, ← hj, nb_get hj']
      congr 3
      rw [List.getD_eq_getElem?_getD, List.getD_eq_getElem?_getD, List.getElem?_take_of_lt (by omega)]
    · obtain ⟨x, _, rfl⟩ := List.mem_map.1 hu; rfl
    · rw [splice_bc _ _ _ _ (by rw [hlen]; omega), nb_length]
      exact h _ (hB.row _) (Only.setRow _ _ _)
theorem cut_wr (L : List Nat) (k n : Nat) : bc n (wr (fun _ => 0) 0 ((L.drop k).take n)) = bc n fun i => L.getD (k + i) 0 := bc_congr fun i hi => by
  unfold wr
  by_cases h : i < ((L.drop k).take n).length
  · rw [if_pos ⟨Nat.zero_le _, by omega⟩, Nat.sub_zero, List.getD_eq_getElem?_getD, List.getD_eq_getElem?_getD, List.getElem?_take_of_lt hi, List.getElem?_drop]
  · rw [if_neg (by omega), List.getD_eq_getElem?_getD, List.getElem?_eq_none]
    · rfl
    · rw [List.length_take, List.length_drop] at h; omega
theorem cut_far (L : List Nat) (k n : Nat) (h : L.length ≤ k) : (bc n fun _ => 0) = bc n fun i => L.getD (k + i) 0 := bc_congr fun i hi => by
  rw [List.getD_eq_getElem?_getD, List.getElem?_eq_none (by omega)]; rfl
/-- New bytes. -/
def NewB (w : World) (R : List Nat) (e : Ending) (w' : World) : Prop := ∃ v, e = .returned v ∧ w'.ownsRow w.heap.size 5 1 v R.length (nb R) ∧ Tch [] w w'
theorem NewB.nil (w : World) {e : Ending} (he : e = .returned (.slice none 0 0)) {w' : World} (h : Tch [] w w') : NewB w [] e w' := ⟨_, he, ⟨rfl, .inl ⟨rfl, rfl⟩⟩, h⟩
theorem NewB.blk {w w' : World} {b k n : Nat} {L : List Nat} {e : Ending} (he : e = .returned (.slice (some ⟨b, 0, none⟩) n n)) (h : Blk w' b 5 (bc n fun i => L.getD (k + i) 0)) (hb : w.heap.size ≤ b) (hn : n ≤ 1048576) (hT : Tch [] w w') : NewB w (cutL L k n) e w' :=
  ⟨_, he, own_of_blk h hb (by unfold maxLen; omega), hT⟩
theorem cutR_any (v : Value) (L : List Nat) (k n : Nat) (w : World) (hv : RdB w v L) (hn : n ≤ 1048576) :
    Calls Try.prog 34 #[v, .int .i64 (k : Int), .int .i64 (n : Int)] w (NewB w (cutL L k n)) := by
  have hv' := hv
  obtain ⟨p, c, rfl, hc, hlt, hr⟩ := hv'
  clear hr
  have hS := St.start w
  by_cases hk : k < L.length
  · obtain ⟨p', c', hsl, hc', hA⟩ := slice_from p L.length c k (by omega) hc
    have HD := Lib.hid (fun w' (hT : Tch [] w w') => (hA [] w' L ((hv.tch hT (by simp)).rdA (by simp))).rdB)
    have hk' : (k : Int) < (L.length : Int) := by omega
    have hlen : (L.drop k).length = L.length - k := List.length_drop
    clear hA hlt hv
    go_enter Try.func34, Try.ntmps34
    go_wp2_with (first
      | (refine st_makeB n hS rfl _ _ rfl rfl rfl (by omega) ?_; clear hS; intro w1 b1 hS)
      | (refine st_from rfl 24 _ _ rfl rfl rfl hsl ?_)
      | (refine copy_bytesT (f := fun _ => 0) (n0 := n) (at_ := 0) (dl := n) (dc := n) (l := L.drop k) (t := 5) (b := b1) (hS.get .head) rfl (.tmp 14) (.tmp 17) rfl rfl rfl (HD.out _ hS.frame) (by omega) ?_; intro w2 hB2 hO2; replace hS := hS.upd .head hO2 hB2; clear hB2 hO2))
    go_ret
    have hB := hS.get .head
    rw [cut_wr] at hB
    exact NewB.blk rfl hB ((hS.own .head).elim id (fun h => by simp at h)) hn hS.frame
  · have hk' : ¬ (k : Int) < (L.length : Int) := by omega
    clear hlt hv
    go_enter Try.func34, Try.ntmps34
    go_wp2_with (first
      | (refine st_makeB n hS rfl _ _ rfl rfl rfl (by omega) ?_; clear hS; intro w1 b1 hS))
    go_ret
    have hB := hS.get .head
    rw [cut_far L k n (by omega)] at hB
    exact NewB.blk rfl hB ((hS.own .head).elim id (fun h => by simp at h)) hn hS.frame
theorem rget_any (B b : Nat) (v : Value) (L : List Nat) (k n : Int) (w : World) (h : MemIn B 32 w b v L) (hL : ∀ x ∈ L, x < 256) (hk : -9223372036854775808 ≤ k ∧ k ≤ 9223372036854775807) :
    Calls Try.prog 26 #[.pointer (some ⟨b, 0, none⟩), .int .i64 k, .int .i64 n] w (NewB w (getL L k n)) := by
  obtain ⟨p, c, rfl, hc⟩ := h.slice
  have HV := Lib.hid (RdB.own h.own hL)
  have HB := Lib.hid h.blk
  have hSb := St.start w
  unfold getL
  by_cases h1 : k < 0
  · rw [if_pos (.inl h1)]
    clear h hL hk
    go_enter Try.func26, Try.ntmps26
    go_wp2
    go_ret
    exact NewB.nil w rfl (Tch.refl _ _)
  by_cases h2 : n < 0
  · rw [if_pos (.inr (.inl h2))]
    clear h hL hk
    go_enter Try.func26, Try.ntmps26
    go_wp2
    go_ret
    exact NewB.nil w rfl (Tch.refl _ _)
  by_cases h3 : 1048576 < n
  · rw [if_pos (.inr (.inr h3))]
    clear h hL hk
    go_enter Try.func26, Try.ntmps26
    go_wp2
    go_ret
    exact NewB.nil w rfl (Tch.refl _ _)
  rw [if_neg (by omega)]
  obtain ⟨k, rfl⟩ : ∃ j : Nat, k = j := ⟨k.toNat, by omega⟩
  obtain ⟨n, rfl⟩ : ∃ j : Nat, n = j := ⟨n.toNat, by omega⟩
  rw [Int.toNat_natCast, Int.toNat_natCast]
  have hn : n ≤ 1048576 := by omega
  have HS := fun w' (hT : Tch [] w w') => St.one (hT.blk HB.out (by simp))
  have hS := St.one HB.out
  have HC := Lib.hid (fun w' (hv : RdB w' (.slice p L.length c) L) => cutR_any (.slice p L.length c) L k n w' hv hn)
  clear h hL hk HS hSb
  go_enter Try.func26, Try.ntmps26
  go_wp2_with (first
    | (refine st_cell1 (v := .slice p L.length c) hS rfl 24 _ rfl rfl .head rfl bytes_aggI ?_)
    | (go_at_call 34; go_must (refine (HC.out _ HV.out).mono ?_; rintro e w2 ⟨v2, rfl, hown2, hT2⟩)))
  go_ret
  exact ⟨_, rfl, hown2, hT2⟩
theorem get_any (B b : Nat) (v : Value) (L : List Nat) (k n : Int) (w : World) (h : MemIn B 26 w b v L) (hL : ∀ x ∈ L, x < 256) (hk : -9223372036854775808 ≤ k ∧ k ≤ 9223372036854775807) :
    Calls Try.prog 15 #[.pointer (some ⟨b, 0, none⟩), .int .i64 k, .int .i64 n] w (NewB w (getL L k n)) := by
  obtain ⟨p, c, rfl, hc⟩ := h.slice
  have HV := Lib.hid (RdB.own h.own hL)
  have HB := Lib.hid h.blk
  have hSb := St.start w
  unfold getL
  by_cases h1 : k < 0
  · rw [if_pos (.inl h1)]
    clear h hL hk
    go_enter Try.func15, Try.ntmps15
    go_wp2
    go_ret
    exact NewB.nil w rfl (Tch.refl _ _)
  by_cases h2 : n < 0
  · rw [if_pos (.inr (.inl h2))]
    clear h hL hk
    go_enter Try.func15, Try.ntmps15
    go_wp2
    go_ret
    exact NewB.nil w rfl (Tch.refl _ _)
  by_cases h3 : 1048576 < n
  · rw [if_pos (.inr (.inr h3))]
    clear h hL hk
    go_enter Try.func15, Try.ntmps15
    go_wp2
    go_ret
    exact NewB.nil w rfl (Tch.refl _ _)
  rw [if_neg (by omega)]
  obtain ⟨k, rfl⟩ : ∃ j : Nat, k = j := ⟨k.toNat, by omega⟩
  obtain ⟨n, rfl⟩ : ∃ j : Nat, n = j := ⟨n.toNat, by omega⟩
  rw [Int.toNat_natCast, Int.toNat_natCast]
  have hn : n ≤ 1048576 := by omega
  have HS := fun w' (hT : Tch [] w w') => St.one (hT.blk HB.out (by simp))
  clear h hL HS hSb
  have hS := St.start w
  by_cases hk : k < L.length
  · obtain ⟨p', c', hsl, hc', hA⟩ := slice_from p L.length c k (by omega) hc
    have HD := Lib.hid (fun w' (hT : Tch [] w w') => (hA [] w' L ((HV.out.tch hT (by simp)).rdA (by simp))).rdB)
    have hk' : (k : Int) < (L.length : Int) := by omega
    have HB' := Lib.hid (fun w' (hT : Tch [] w w') => St.one (hT.blk HB.out (by simp)))
    clear hA
    go_enter Try.func15, Try.ntmps15
    go_wp2_with (first
      | (refine st_makeB n hS rfl _ _ rfl rfl rfl (by omega) ?_; clear hS; intro w1 b1 hS)
      | (refine st_cell1 (v := .slice p L.length c) (HB'.out _ hS.frame) rfl 24 _ rfl rfl .head rfl bytes_aggI ?_)
      | (refine st_from rfl 24 _ _ rfl rfl rfl hsl ?_)
      | (refine copy_bytesT (f := fun _ => 0) (n0 := n) (at_ := 0) (dl := n) (dc := n) (l := L.drop k) (t := 5) (b := b1) (hS.get .head) rfl (.tmp 27) (.tmp 33) rfl rfl rfl (HD.out _ hS.frame) (by omega) ?_; intro w2 hB2 hO2; replace hS := hS.upd .head hO2 hB2; clear hB2 hO2))
    go_ret
    have hB := hS.get .head
    rw [cut_wr] at hB
    exact NewB.blk rfl hB ((hS.own .head).elim id (fun h => by simp at h)) hn hS.frame
  · have hk' : ¬ (k : Int) < (L.length : Int) := by omega
    have HB' := Lib.hid (fun w' (hT : Tch [] w w') => St.one (hT.blk HB.out (by simp)))
    go_enter Try.func15, Try.ntmps15
    go_wp2_with (first
      | (refine st_makeB n hS rfl _ _ rfl rfl rfl (by omega) ?_; clear hS; intro w1 b1 hS)
      | (refine st_cell1 (v := .slice p L.length c) (HB'.out _ hS.frame) rfl 24 _ rfl rfl .head rfl bytes_aggI ?_))
    go_ret
    have hB := hS.get .head
    rw [cut_far L k n (by omega)] at hB
    exact NewB.blk rfl hB ((hS.own .head).elim id (fun h => by simp at h)) hn hS.frame
/-- A row's bytes from the k-th on. -/
theorem slice_own (g n c k : Nat) (hk : k < n) (hc : n ≤ c) (w : World) : (Instr.sliceAt 24 (.slice (some ⟨g, 0, none⟩) n c) (some (.int .i64 (k : Int))) none none).run Try.prog w = .ok (.slice (some ⟨g, k, none⟩) (n - k) (c - k)) w := by
  have hel : Try.prog.elem 24 = 5 := by kernel_rfl
  have ht : Try.prog.underlying 24 = some (.slice (Try.prog.elem 24)) := by rw [hel]; exact bytes_ty
  have e1 := run_sliceAt_slice (P := Try.prog) (w := w) 24 (.slice (some ⟨g, 0, none⟩) n c) (some (.int .i64 (k : Int))) none none ht
  have e2 := run_slice_l (P := Try.prog) (w := w) 24 (some ⟨g, 0, none⟩) n c ht .i64 (k : Int) (by omega) (by omega)
  rw [e1, e2, hel, sizeOf_u8]
  have : ¬ c = k := by omega
  simp [Result.andThen, sliced, this, Addr.add]
  try omega
/-- Bytes are copied into a row of one's own. -/
theorem st_copyOwn {ops : Array Oper} {rest : List Oper} {o : Oper} {a : Act} {w : World} {Q : Exit → Act → World → Prop} {B g k c : Nat} {L M : List Nat} {u : Value} (hown : w.ownsRow B 5 1 (.slice (some ⟨g, 0, none⟩) L.length c) L.length (nb L)) (hgd : o.guard = none) (d s : Operand)
    (ho : o.op = .call { callee := .builtin .copy, args := #[d, s], argTypes := #[24, 24] }) (hd : a.eval d = .slice (some ⟨g, k, none⟩) (L.length - k) (c - k)) (hs : a.eval s = u) (hu : RdB w u M) (hM : M ≠ []) (hfit : k + M.length ≤ L.length)
    (h : ∀ w', w'.ownsRow B 5 1 (.slice (some ⟨g, 0, none⟩) L.length c) (putL L k M).length (nb (putL L k M)) → Only g w w' → wpList Try.prog ops Q rest (a.put o.dst (goInt M.length)) w') : wpList Try.prog ops Q (o :: rest) a w := by
  obtain ⟨pu, cu, rfl, h2, h3, h4⟩ := hu
  obtain ⟨pb, po, rfl, h6, h7⟩ := h4 hM
  obtain ⟨hl, ⟨h, _⟩ | ⟨g', cap, cur, he, hB, hb, hnc, hcm, hsz, htk⟩⟩ := hown
  · cases h
  injection he with e1 _ e3
  injection e1 with e1
  injection e1 with e1
  subst e1 e3
  rw [Nat.mul_one] at htk hl hsz
  refine wpList_copy_own hgd d s 24 24 ho 5 bytes_ty u8_size g k (L.length - k) (c - k) ⟨pb, po, none⟩ M.length cu hd hs cur 5 hb (nb M) (by rw [nb_length, show Nat.min M.length (L.length - k) = min M.length (L.length - k) from rfl, Nat.min_eq_left (by omega)]) (fun j u hj => ?_) (by rw [nb_length, hsz]; omega) (fun u hu => ?_) ?_
  · have hj' : j < M.length := by
      have := (List.getElem?_eq_some_iff.1 hj).1
      rwa [nb_length] at this
    have hadd : (⟨pb, po, none⟩ : Addr).add j = ⟨pb, po + j, none⟩ := by unfold Addr.add; split <;> simp_all
    rw [hadd, h7 j hj', ← nb_get hj', hj]
  · obtain ⟨x, _, rfl⟩ := List.mem_map.1 hu; rfl
  · rw [nb_length]
    have hpl := putL_len hfit
    refine h _ ⟨by rw [nb_length, Nat.mul_one], .inr ⟨g, c, _, by rw [hpl], hB, setRow_heap w g cur _ 5 _ hb, by rw [hpl]; exact hnc, hcm, ?_, ?_⟩⟩ (Only.setRow _ _ _)
    · simp only [List.size_toArray, List.length_append, List.length_take, List.length_drop, Array.length_toList, nb_length]
      omega
    · rw [hpl, Nat.mul_one]
      have e := take_splice cur.toList (nb L) (nb M) L.length k htk (by rw [nb_length]) (by rw [nb_length]; exact hfit)
      rw [nb_length] at e
      rw [List.toList_toArray, e]
      simp [putL, nb]
/-- Whether bytes may be put, and what is there then. -/
def putOk (L : List Nat) (k : Int) (M : List Nat) : Bool := decide (0 ≤ k ∧ (M = [] ∨ k.toNat + M.length ≤ L.length))
def putR (L : List Nat) (k : Int) (M : List Nat) : List Nat := if 0 ≤ k ∧ M ≠ [] ∧ k.toNat + M.length ≤ L.length then putL L k.toNat M else L
def PutP (B ty : Nat) (w : World) (b : Nat) (v : Value) (ok : Bool) (L' : List Nat) (e : Ending) (w' : World) : Prop :=
  ∃ v', e = .returned (.bool ok) ∧ MemIn B ty w' b v' L' ∧ Turned w w' b v v'
theorem PutP.mk {B ty : Nat} {w w' : World} {b : Nat} {v v' : Value} {ok : Bool} {L' : List Nat} {e : Ending} (h : e = .returned (.bool ok)) (h1 : MemIn B ty w' b v' L') (h2 : Turned w w' b v v') : PutP B ty w b v ok L' e w' := ⟨v', h, h1, h2⟩
theorem put_no {L M : List Nat} {k : Int} (h : ¬ (0 ≤ k ∧ (M = [] ∨ k.toNat + M.length ≤ L.length))) : putOk L k M = false ∧ putR L k M = L := by
  unfold putOk putR
  refine ⟨decide_eq_false h, if_neg fun h2 => h ⟨h2.1, .inr h2.2.2⟩⟩
theorem put_nil {L : List Nat} {k : Int} (h : 0 ≤ k) : putOk L k [] = true ∧ putR L k [] = L := by
  unfold putOk putR
  exact ⟨decide_eq_true ⟨h, .inl rfl⟩, if_neg fun h2 => h2.2.1 rfl⟩
theorem put_yes {L M : List Nat} {k : Nat} (hM : M ≠ []) (h : k + M.length ≤ L.length) : putOk L k M = true ∧ putR L k M = putL L k M := by
  unfold putOk putR
  rw [Int.toNat_natCast]
  exact ⟨decide_eq_true ⟨by omega, .inr h⟩, if_pos ⟨by omega, hM, h⟩⟩
theorem own_len {w : World} {B e m n : Nat} {v : Value} {xs : List Value} (h : w.ownsRow B e m v n xs) : n ≤ maxLen := by
  rcases h.2 with ⟨_, rfl⟩ | ⟨g, cap, cur, _, _, _, hn, hm, _⟩
  · exact Nat.zero_le _
  · exact Nat.le_trans hn hm
theorem put_any (B b : Nat) (v u : Value) (L M : List Nat) (k : Int) (w : World) (h : MemIn B 26 w b v L) (hu : RdB w u M) (hk : -9223372036854775808 ≤ k ∧ k ≤ 9223372036854775807) :
    Calls Try.prog 22 #[.pointer (some ⟨b, 0, none⟩), .int .i64 k, u] w (PutP B 26 w b v (putOk L k M) (putR L k M)) := by
  obtain ⟨p, c, rfl, hc⟩ := h.slice
  have HH := Lib.hid h
  have HU := Lib.hid hu
  obtain ⟨pu, cu, rfl, hcu, hMlt, hr⟩ := hu
  have hS := St.one h.blk
  have hLm := own_len h.own
  have hMm := hcu
  clear hr
  by_cases h0 : k < 0
  · obtain ⟨hok, hR⟩ := put_no (L := L) (M := M) (k := k) (by omega)
    rw [hok, hR]
    clear h
    go_enter Try.func22, Try.ntmps22
    go_wp2_with (first
      | (refine st_cell1 (v := .slice p L.length c) hS rfl 24 _ rfl rfl .head rfl bytes_aggI ?_))
    go_ret
    obtain ⟨h1, h2⟩ := HH.out.kept hS .head
    exact PutP.mk rfl h1 h2
  by_cases hM : M = []
  · obtain ⟨hok, hR⟩ := put_nil (L := L) (k := k) (by omega)
    subst hM; rw [hok, hR]; have hk0 : ¬ k < 0 := h0; have hz : (([] : List Nat).length : Int) = 0 := rfl
    clear h
    go_enter Try.func22, Try.ntmps22
    go_wp2_with (first
      | (refine st_cell1 (v := .slice p L.length c) hS rfl 24 _ rfl rfl .head rfl bytes_aggI ?_))
    go_ret
    obtain ⟨h1, h2⟩ := HH.out.kept hS .head
    exact PutP.mk rfl h1 h2
  by_cases hf : ¬ k.toNat + M.length ≤ L.length
  · obtain ⟨hok, hR⟩ := put_no (L := L) (M := M) (k := k) (by rintro ⟨_, h | h⟩; exact hM h; exact hf h)
    rw [hok, hR]; have hMl : 0 < M.length := List.length_pos_iff.2 hM; have hlm : L.length ≤ 9223372036854775807 := hLm; have g1 : ((L.length : Int) - k) < (M.length : Int) := by omega
    have g2 : IntKind.i64.wrap ((L.length : Int) - k) = (L.length : Int) - k := by rw [IntKind.wrap_i64]; omega
    have g3 : ¬ ((M.length : Int) = 0) := by omega
    clear h
    go_enter Try.func22, Try.ntmps22
    go_wp2_with (first
      | (refine st_cell1 (v := .slice p L.length c) hS rfl 24 _ rfl rfl .head rfl bytes_aggI ?_))
    go_ret
    obtain ⟨h1, h2⟩ := HH.out.kept hS .head
    exact PutP.mk rfl h1 h2
  obtain ⟨k, rfl⟩ : ∃ j : Nat, k = j := ⟨k.toNat, by omega⟩
  obtain ⟨hok, hR⟩ := put_yes (L := L) (M := M) (k := k) hM (by rw [Int.toNat_natCast] at hf; omega)
  rw [hok, hR]
  rw [Int.toNat_natCast] at hf
  have hMl : 0 < M.length := List.length_pos_iff.2 hM
  have hfit : k + M.length ≤ L.length := by omega
  obtain ⟨g, rfl⟩ : ∃ g, p = some ⟨g, 0, none⟩ := by
    rcases h.own.2 with ⟨e1, e2⟩ | ⟨g, cap, cur, e1, _⟩
    · omega
    · injection e1 with e1
      exact ⟨g, e1⟩
  have hgb : g ≠ b := fun e => h.apart (by rw [e]; rfl)
  have hsl := slice_own g L.length c k (by omega) hc
  have hlm : L.length ≤ 9223372036854775807 := hLm
  have g1 : ¬ ((L.length : Int) - k) < (M.length : Int) := by omega
  have g2 : IntKind.i64.wrap ((L.length : Int) - k) = (L.length : Int) - k := by rw [IntKind.wrap_i64]; omega
  have g3 : ¬ ((M.length : Int) = 0) := by omega
  have HMn := Lib.hid hM
  clear h hM hok hR
  go_enter Try.func22, Try.ntmps22
  go_wp2_with (first
    | (refine st_cell1 (v := .slice (some ⟨g, 0, none⟩) L.length c) hS rfl 24 _ rfl rfl .head rfl bytes_aggI ?_)
    | (refine st_from rfl 24 _ _ rfl rfl rfl hsl ?_)
    | (refine st_copyOwn (g := g) (k := k) (c := c) (L := L) (M := M) HH.out.own rfl (.tmp 27) (.tmp 28) rfl rfl rfl HU.out HMn.out hfit ?_; intro w2 hown2 hO2; have HO2 := Lib.hid hown2; clear hown2))
  go_ret
  refine PutP.mk rfl ⟨hO2.blk (fun e => hgb e.symm) HH.out.blk, HO2.out, HH.out.apart, HH.out.base⟩ ⟨hO2.tch.mono fun x hx => .inl (mem_fpr.2 (.inr (by rw [List.mem_singleton.1 hx]; rfl))), fun _ hk => .inl hk⟩
end Go.Proofs.Ytlliidfkjlmadaa
