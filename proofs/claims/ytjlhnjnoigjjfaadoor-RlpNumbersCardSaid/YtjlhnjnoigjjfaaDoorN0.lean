/- Numbers of rlp: the base (bytes, reslices, steps; SameItem of bytes) where the program's Read is not at hand. -/
import Derived.Test.YtjlhnjnoigjjfaaDoorR9
import Derived.Test.YtjlhnjnoigjjfaaDoorS3
import Derived.Laws.BitsAllLaws
import Derived.Stop.BytesEq
namespace Go.Proofs.YtjlhnjnoigjjfaaDoor
open Go.RowKit

theorem RdA.take {X : List Nat} {w : World} {p : Option Addr} {n c k : Nat} {l : List Nat} (h : RdA X w (.slice p n c) l) (hk : k ≤ n) : RdA X w (.slice p k c) (l.take k) := by
  obtain ⟨p', c', h1, h2, h3, h4⟩ := h
  cases h1
  refine ⟨p, c, by rw [List.length_take, Nat.min_eq_left hk], by rw [List.length_take]; omega, fun x hx => h3 x (List.mem_of_mem_take hx), fun hl => ?_⟩
  have hne : l ≠ [] := by intro e; subst e; simp at hl
  obtain ⟨b, o, h5, h6, h7, h8⟩ := h4 hne
  refine ⟨b, o, h5, h6, h7, fun i hi => ?_⟩
  rw [List.length_take] at hi
  rw [h8 i (by omega), List.getD_eq_getElem?_getD, List.getD_eq_getElem?_getD, List.getElem?_take, if_pos (by omega)]
theorem RdA.len {X : List Nat} {w : World} {p : Option Addr} {n c : Nat} {l : List Nat} (h : RdA X w (.slice p n c) l) : n = l.length := by
  obtain ⟨p', c', h1, _⟩ := h
  cases h1; rfl
theorem RdA.cap {X : List Nat} {w : World} {p : Option Addr} {n c : Nat} {l : List Nat} (h : RdA X w (.slice p n c) l) : n ≤ c := by
  obtain ⟨p', c', h1, h2, _⟩ := h
  cases h1; exact h2
theorem RdA.lt {X : List Nat} {w : World} {v : Value} {l : List Nat} (h : RdA X w v l) : ∀ x ∈ l, x < 256 := h.choose_spec.choose_spec.2.2.1
theorem sizeOf_u8 (w : World) : (sizeOf 5).run Tryd.prog w = .ok 1 w := by kernel_rfl
/-- Bytes from the k-th on. -/
theorem slice_from (p : Option Addr) (n c k : Nat) (hk : k ≤ n) (hc : n ≤ c) : ∃ p' c', (∀ w, (Instr.sliceAt 24 (.slice p n c) (some (.int .i64 (k : Int))) none none).run Tryd.prog w = .ok (.slice p' (n - k) c') w) ∧ n - k ≤ c' ∧
    ∀ X w l, RdA X w (.slice p n c) l → RdA X w (.slice p' (n - k) c') (l.drop k) := by
  refine ⟨if c = k then p else p.map (·.add (k * 1)), c - k, fun w => ?_, by omega, fun X w l h => ?_⟩
  · have hel : Tryd.prog.elem 24 = 5 := by kernel_rfl
    have ht : Tryd.prog.underlying 24 = some (.slice (Tryd.prog.elem 24)) := by rw [hel]; exact bytes_ty
    have e1 := run_sliceAt_slice (P := Tryd.prog) (w := w) 24 (.slice p n c) (some (.int .i64 (k : Int))) none none ht
    have e2 := run_slice_l (P := Tryd.prog) (w := w) 24 p n c ht .i64 (k : Int) (by omega) (by omega)
    rw [e1, e2, hel, sizeOf_u8]
    simp [Result.andThen, sliced]
  · obtain ⟨p', c', h1, h2, h3, h4⟩ := h
    cases h1
    refine ⟨_, _, by rw [List.length_drop], by rw [List.length_drop]; omega, fun x hx => h3 x (List.mem_of_mem_drop hx), fun hl => ?_⟩
    have hlt : k < l.length := by
      rcases Nat.lt_or_ge k l.length with h | h
      · exact h
      · exact absurd (List.drop_eq_nil_of_le h) hl
    obtain ⟨b, o, rfl, h6, h7, h8⟩ := h4 (by intro e; subst e; simp at hlt)
    refine ⟨b, o + k, ?_, h6, h7, fun i hi => ?_⟩
    · rw [if_neg (by omega)]
      simp [Addr.add]
    · rw [List.length_drop] at hi
      rw [Nat.add_assoc, h8 (k + i) (by omega)]
      simp
theorem slice_keep {X : List Nat} {w : World} {v : Value} {l : List Nat} (h : RdA X w v l) : ∃ p n c, v = .slice p n c := by
  obtain ⟨p, c, h, _⟩ := h; exact ⟨p, _, c, h⟩
theorem RdA.from_ne {X : List Nat} {w : World} {b o n c : Nat} {l : List Nat} (k : Nat) (h : RdA X w (.slice (some ⟨b, o, none⟩) n c) l) (hk : k ≤ n) : RdA X w (.slice (some ⟨b, o + k, none⟩) (n - k) (c - k)) (l.drop k) := by
  obtain ⟨p', c', h1, h2, h3, h4⟩ := h
  cases h1
  refine ⟨_, _, by rw [List.length_drop], by rw [List.length_drop]; omega, fun x hx => h3 x (List.mem_of_mem_drop hx), fun hl => ?_⟩
  have hlt : k < l.length := by
    rcases Nat.lt_or_ge k l.length with h | h
    · exact h
    · exact absurd (List.drop_eq_nil_of_le h) hl
  obtain ⟨b', o', h5, h6, h7, h8⟩ := h4 (by intro e; subst e; simp at hlt)
  cases h5
  refine ⟨b, o + k, rfl, h6, h7, fun i hi => ?_⟩
  rw [List.length_drop] at hi
  rw [Nat.add_assoc, h8 (k + i) (by omega)]
  simp
theorem RdA.gone {X : List Nat} {w : World} {p q : Option Addr} {n c m k : Nat} {l : List Nat} (h : RdA X w (.slice p n c) l) (hk : n ≤ k) : RdA X w (.slice q 0 m) (l.drop k) := by
  rw [List.drop_eq_nil_of_le (by rw [← h.len]; exact hk)]
  exact ⟨q, m, rfl, Nat.zero_le _, by simp, fun h => absurd rfl h⟩
theorem RdA.from_eq {X : List Nat} {w : World} {p q : Option Addr} {n k : Nat} {l : List Nat} (h : RdA X w (.slice p n k) l) : RdA X w (.slice q (n - k) 0) (l.drop k) := by
  obtain ⟨p', c', h1, h2, h3, h4⟩ := h
  cases h1
  rw [List.drop_eq_nil_of_le h2, Nat.sub_eq_zero_of_le h2]
  exact ⟨q, 0, rfl, Nat.le_refl _, by simp, fun h => absurd rfl h⟩
theorem RdA.from_if {X : List Nat} {w : World} {b o n c : Nat} {l : List Nat} (k : Nat) (h : RdA X w (.slice (some ⟨b, o, none⟩) n c) l) (hk : k ≤ n) : RdA X w (.slice (if c = k then some ⟨b, o, none⟩ else some ⟨b, o + k, none⟩) (n - k) (c - k)) (l.drop k) := by
  by_cases hc : c = k
  · rw [if_pos hc]; subst hc
    rw [Nat.sub_self]
    exact h.from_eq
  · rw [if_neg hc]; exact h.from_ne k hk
theorem strB_list (l : List Nat) : (strB l).toList = l.map UInt8.ofNat := by
  rw [ByteArray.toList_eq]; rfl
theorem ofNat_inj : ∀ {a b : List Nat}, (∀ x ∈ a, x < 256) → (∀ x ∈ b, x < 256) → a.map UInt8.ofNat = b.map UInt8.ofNat → a = b
  | [], [], _, _, _ => rfl
  | [], _ :: _, _, _, h => by simp at h
  | _ :: _, [], _, _, h => by simp at h
  | x :: r, y :: s, ha, hb, h => by
    simp only [List.map_cons, List.cons.injEq] at h
    have h1 := congrArg UInt8.toNat h.1
    have hx := ha x List.mem_cons_self
    have hy := hb y List.mem_cons_self
    simp [Nat.mod_eq_of_lt hx, Nat.mod_eq_of_lt hy] at h1
    rw [h1, ofNat_inj (fun z hz => ha z (List.mem_cons_of_mem _ hz)) (fun z hz => hb z (List.mem_cons_of_mem _ hz)) h.2]
theorem strB_eq {a b : List Nat} (ha : ∀ x ∈ a, x < 256) (hb : ∀ x ∈ b, x < 256) : ((strB a).toList == (strB b).toList) = (a == b) := by
  rw [strB_list, strB_list]
  by_cases h : a = b
  · subst h; simp
  · have h1 : ¬ a.map UInt8.ofNat = b.map UInt8.ofNat := fun e => h (ofNat_inj ha hb e)
    rw [beq_eq_false_iff_ne.2 h1, beq_eq_false_iff_ne.2 h]
theorem RdA.ofBlk {X : List Nat} {w : World} {b : Nat} {l : List Nat} (h : Blk w b 5 (bc l.length fun i => l.getD i 0)) (hl : ∀ x ∈ l, x < 256) (hb : b ∉ X) : RdA X w (.slice (some ⟨b, 0, none⟩) l.length l.length) l :=
  ⟨_, _, rfl, Nat.le_refl _, hl, fun _ => ⟨b, 0, rfl, h.lt, hb, fun i hi => by rw [Nat.zero_add]; exact h.cell (bc_get hi)⟩⟩
set_option maxHeartbeats 800000 in
set_option maxRecDepth 100000 in
theorem same_str (vb vl yb yl : Value) (la lb : List Nat) (w : World) (ha : RdA [] w vb la) (hb : RdA [] w yb lb) :
    Calls Tryd.prog 10 #[.agg #[.bool false, vb, vl], .agg #[.bool false, yb, yl]] w fun e w' => e = .returned (.bool (la == lb)) ∧ Tch [] w w' := by
  have hS := St.start w
  obtain ⟨p1, n1, k1, rfl⟩ := slice_keep ha
  obtain ⟨p2, n2, k2, rfl⟩ := slice_keep hb
  have HE := Lib.hid (And.intro (strB_eq ha.lt hb.lt) (And.intro ha hb))
  clear ha hb
  go_enter Tryd.func10, Tryd.ntmps10
  go_wp2_with (first
    | (refine st_box (L := []) hS rfl 27 _ rfl rfl ?_; clear hS; intro w0 b0 hS)
    | (refine st_box hS rfl 27 _ rfl rfl ?_; clear hS; intro w1 b1 hS
       have c0 := (hS.get .head).cell (j := 0) rfl
       have c1 := (hS.get (.tail .head)).cell (j := 0) rfl
       have d0 := (hS.get .head).cell (j := 1) rfl
       have d1 := (hS.get (.tail .head)).cell (j := 1) rfl
       have q1 := conv_rd ((HE.out.2.1.tch hS.frame).rdB)
       have q2 := conv_rd ((HE.out.2.2.tch hS.frame).rdB)
       generalize hs1 : strB la = s1 at *
       generalize hs2 : strB lb = s2 at *))
  go_ret
  refine ⟨?_, hS.frame⟩
  rw [← HE.out.1]; rfl
end Go.Proofs.YtjlhnjnoigjjfaaDoor
