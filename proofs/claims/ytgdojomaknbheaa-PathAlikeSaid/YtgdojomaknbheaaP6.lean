/- The document's PackPath. -/
import Derived.Test.YtgdojomaknbheaaP5
namespace Go.Proofs.Ytgdojomaknbheaa
open Go.RowKit

/-- What stands in front of a packed path. -/
def fr (l : List Nat) (leaf : Bool) : List Nat := if l.length % 2 = 1 then [bif leaf then 3 else 1] else [bif leaf then 2 else 0, 0]
/-- The bytes that a path of a kind is packed as, or none. -/
def packL (l : List Nat) (leaf : Bool) : Option (List Nat) := joinL (fr l leaf ++ l)
theorem fr_odd {l : List Nat} (leaf : Bool) (h : l.length % 2 = 1) : fr l leaf = [bif leaf then 3 else 1] := by unfold fr; rw [if_pos h]
theorem fr_even {l : List Nat} (leaf : Bool) (h : l.length % 2 = 0) : fr l leaf = [bif leaf then 2 else 0, 0] := by unfold fr; rw [if_neg (by omega)]
theorem fr_lt (l : List Nat) (leaf : Bool) : ∀ x ∈ fr l leaf, x < 4 := by
  unfold fr; intro x hx
  cases leaf <;> (split at hx <;> simp at hx <;> omega)
theorem optpost_ret {w w1 w2 : World} {r : Option (List Nat)} {e : Ending} (hT : Tch [] w w1) (h : OptPost w1 r e w2) : OptPost w r e w2 := ⟨hT.trans h.1, h.2⟩
set_option maxHeartbeats 4000000 in
set_option maxRecDepth 100000 in
theorem refPack_even (v : Value) (l : List Nat) (leaf : Bool) (w : World) (hm : l.length ≤ 100000) (hv : RdA [] w v l) (hp : l.length % 2 = 0) :
    Calls Try.prog 11 #[v, .bool leaf] w (OptPost w (packL l leaf)) := by
  obtain ⟨_, n, c', rfl⟩ := slice_keep hv
  have hlen := hv.len
  have HV := Lib.hid hv
  have hpar : ((n : Int) % 2 == 1) = false := by rw [beq_eq_false_iff_ne]; omega
  have HF := Lib.hid (fr_even leaf hp)
  have hjoin := fun (u : Value) (w1 : World) (hu : RdA [] w1 u (fr l leaf ++ l)) => refJoin_any u (fr l leaf ++ l) w1 (by rw [List.length_append, fr_even leaf hp]; simp; omega) hu
  have HJ := Lib.hid hjoin
  have HLT := Lib.hid (show ∀ x ∈ fr l leaf ++ l, x < 256 from fun x hx => (List.mem_append.1 hx).elim (fun h => Nat.lt_of_lt_of_le (fr_lt l leaf x h) (by decide)) (hv.lt x))
  have HL := Lib.hid (And.intro hlen hm)
  clear hv hjoin hp hlen
  cases leaf with
  | true =>
    go_enter Try.func11, Try.ntmps11
    go_wp2_with (first
      | (at_builtin; go_must (refine st_appB (w0 := w) (l := [2, 0]) (m := l) (ty := 5) rfl _ _ rfl rfl rfl (own_lit [2, 0] (Nat.le_refl _) (by simp) _ rfl) ((Tch.refl [] w).alloc _) ((HV.out.tch ((Tch.refl [] w).alloc _)).rdB) (by have := HL.out; simp; omega) ?_; intro v' w3 hown' hT'))
      | (go_at_call 9; go_must (have hu := HJ.out _ _ ((RdB.own (l := fr l true ++ l) (by rw [HF.out]; exact hown') HLT.out).rdA (by simp)); (with_reducible refine hu.mono ?_); rintro e w4 ⟨hT4, v4, rfl, hv4⟩)))
    go_ret2
    exact ⟨hT'.trans hT4, _, rfl, hv4⟩
  | false =>
    go_enter Try.func11, Try.ntmps11
    go_wp2_with (first
      | (at_builtin; go_must (refine st_appB (w0 := w) (l := [0, 0]) (m := l) (ty := 5) rfl _ _ rfl rfl rfl (own_lit [0, 0] (Nat.le_refl _) (by simp) _ rfl) ((Tch.refl [] w).alloc _) ((HV.out.tch ((Tch.refl [] w).alloc _)).rdB) (by have := HL.out; simp; omega) ?_; intro v' w3 hown' hT'))
      | (go_at_call 9; go_must (have hu := HJ.out _ _ ((RdB.own (l := fr l false ++ l) (by rw [HF.out]; exact hown') HLT.out).rdA (by simp)); (with_reducible refine hu.mono ?_); rintro e w4 ⟨hT4, v4, rfl, hv4⟩)))
    go_ret2
    exact ⟨hT'.trans hT4, _, rfl, hv4⟩
set_option maxHeartbeats 4000000 in
set_option maxRecDepth 100000 in
theorem refPack_odd (v : Value) (l : List Nat) (leaf : Bool) (w : World) (hm : l.length ≤ 100000) (hv : RdA [] w v l) (hp : l.length % 2 = 1) :
    Calls Try.prog 11 #[v, .bool leaf] w (OptPost w (packL l leaf)) := by
  obtain ⟨_, n, c', rfl⟩ := slice_keep hv
  have hlen := hv.len
  have HV := Lib.hid hv
  have hpar : ((n : Int) % 2 == 1) = true := by rw [beq_iff_eq]; omega
  have HF := Lib.hid (fr_odd leaf hp)
  have hjoin := fun (u : Value) (w1 : World) (hu : RdA [] w1 u (fr l leaf ++ l)) => refJoin_any u (fr l leaf ++ l) w1 (by rw [List.length_append, fr_odd leaf hp]; simp; omega) hu
  have HJ := Lib.hid hjoin
  have HLT := Lib.hid (show ∀ x ∈ fr l leaf ++ l, x < 256 from fun x hx => (List.mem_append.1 hx).elim (fun h => Nat.lt_of_lt_of_le (fr_lt l leaf x h) (by decide)) (hv.lt x))
  have HL := Lib.hid (And.intro hlen hm)
  clear hv hjoin hp hlen
  have hsz : ∀ o : Obj, w.heap.size + 1 = (w.alloc o).heap.size := fun o => by simp
  have HSZ := Lib.hid hsz
  clear hsz
  cases leaf with
  | true =>
    go_enter Try.func11, Try.ntmps11
    go_wp2_with (first
      | (at_builtin; go_must (refine st_appB (w0 := w) (l := [3]) (m := l) (ty := 5) rfl _ _ rfl rfl rfl (by rw [HSZ.out]; exact own_lit (w0 := w) (w := w.alloc (.cells #[.int .u8 2, .int .u8 0] 5)) [3] (by simp) (by simp) _ rfl) (((Tch.refl [] w).alloc _).alloc _) ((HV.out.tch (((Tch.refl [] w).alloc _).alloc _)).rdB) (by have := HL.out; simp; omega) ?_; intro v' w3 hown' hT'))
      | (go_at_call 9; go_must (have hu := HJ.out _ _ ((RdB.own (l := fr l true ++ l) (by rw [HF.out]; exact hown') HLT.out).rdA (by simp)); (with_reducible refine hu.mono ?_); rintro e w4 ⟨hT4, v4, rfl, hv4⟩)))
    go_ret2
    exact ⟨hT'.trans hT4, _, rfl, hv4⟩
  | false =>
    go_enter Try.func11, Try.ntmps11
    go_wp2_with (first
      | (at_builtin; go_must (refine st_appB (w0 := w) (l := [1]) (m := l) (ty := 5) rfl _ _ rfl rfl rfl (by rw [HSZ.out]; exact own_lit (w0 := w) (w := w.alloc (.cells #[.int .u8 0, .int .u8 0] 5)) [1] (by simp) (by simp) _ rfl) (((Tch.refl [] w).alloc _).alloc _) ((HV.out.tch (((Tch.refl [] w).alloc _).alloc _)).rdB) (by have := HL.out; simp; omega) ?_; intro v' w3 hown' hT'))
      | (go_at_call 9; go_must (have hu := HJ.out _ _ ((RdB.own (l := fr l false ++ l) (by rw [HF.out]; exact hown') HLT.out).rdA (by simp)); (with_reducible refine hu.mono ?_); rintro e w4 ⟨hT4, v4, rfl, hv4⟩)))
    go_ret2
    exact ⟨hT'.trans hT4, _, rfl, hv4⟩
theorem refPack_any (v : Value) (l : List Nat) (leaf : Bool) (w : World) (hm : l.length ≤ 100000) (hv : RdA [] w v l) :
    Calls Try.prog 11 #[v, .bool leaf] w (OptPost w (packL l leaf)) :=
  (Nat.mod_two_eq_zero_or_one l.length).elim (refPack_even v l leaf w hm hv) (refPack_odd v l leaf w hm hv)
end Go.Proofs.Ytgdojomaknbheaa
