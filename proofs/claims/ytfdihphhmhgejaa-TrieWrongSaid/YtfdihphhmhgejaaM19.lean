/- The document's Split. -/
import Derived.Test.YtfdihphhmhgejaaM18
import Derived.Deep.RegionLawGrows
import Derived.Deep.AppendLies
set_option linter.unusedVariables false
set_option linter.unusedSimpArgs false
namespace Go.Proofs.Ytfdihphhmhgejaa
open Go.RowKit

end Go.Proofs.Ytfdihphhmhgejaa

/- Half bytes joined; path.join. -/
namespace Go.Proofs.Ytfdihphhmhgejaa
open Go.RowKit

/-- Half bytes two by two. -/
def jn : List Nat → List Nat
  | x :: y :: r => (16 * x + y) :: jn r
  | _ => []
theorem jn_append : ∀ (l m : List Nat), l.length % 2 = 0 → jn (l ++ m) = jn l ++ jn m
  | [], m, _ => rfl
  | [_], m, h => by simp at h
  | x :: y :: r, m, h => by
    have h' : r.length % 2 = 0 := by simp at h; omega
    show (16 * x + y) :: jn (r ++ m) = _
    rw [jn_append r m h']; rfl
theorem jn_length : ∀ l : List Nat, (jn l).length = l.length / 2
  | [] => rfl
  | [_] => by simp [jn]
  | x :: y :: r => by
    show (jn r).length + 1 = _
    rw [jn_length r]; simp; omega
theorem jn_nibs : ∀ l : List Nat, jn (nibs l) = l
  | [] => rfl
  | x :: l => by
    rw [nibs_cons]
    show (16 * (x / 16) + x % 16) :: jn (nibs l) = _
    rw [jn_nibs l, Nat.div_add_mod]
/-- All of them are half bytes. -/
def allN (l : List Nat) : Bool := l.all fun x => decide (x < 16)
theorem allN_iff {l : List Nat} : allN l = true ↔ ∀ x ∈ l, x < 16 := by simp [allN]
theorem allN_append (l m : List Nat) : allN (l ++ m) = (allN l && allN m) := by simp [allN]
theorem allN_cons (x : Nat) (l : List Nat) : allN (x :: l) = (decide (x < 16) && allN l) := by simp [allN]
theorem nibs_jn : ∀ l : List Nat, l.length % 2 = 0 → allN l = true → nibs (jn l) = l
  | [], _, _ => rfl
  | [_], h, _ => by simp at h
  | x :: y :: r, h, ha => by
    have h' : r.length % 2 = 0 := by simp at h; omega
    have hx : x < 16 := allN_iff.1 ha x (by simp)
    have hy : y < 16 := allN_iff.1 ha y (by simp)
    have hr : allN r = true := allN_iff.2 fun z hz => allN_iff.1 ha z (by simp [hz])
    show nibs ((16 * x + y) :: jn r) = _
    rw [nibs_cons, nibs_jn r h' hr, show (16 * x + y) / 16 = x by omega, show (16 * x + y) % 16 = y by omega]
theorem jn_lt : ∀ l : List Nat, allN l = true → ∀ x ∈ jn l, x < 256
  | [], _, x, hx => by simp [jn] at hx
  | [_], _, x, hx => by simp [jn] at hx
  | a :: b :: r, ha, x, hx => by
    have h1 : a < 16 := allN_iff.1 ha a (by simp)
    have h2 : b < 16 := allN_iff.1 ha b (by simp)
    have hr : allN r = true := allN_iff.2 fun z hz => allN_iff.1 ha z (by simp [hz])
    rcases List.mem_cons.1 hx with rfl | hx
    · omega
    · exact jn_lt r hr x hx
theorem take_snoc2 {l : List Nat} {k : Nat} (h : 2 * k + 1 < l.length) : l.take (2 * (k + 1)) = l.take (2 * k) ++ [l.getD (2 * k) 0, l.getD (2 * k + 1) 0] := by
  rw [show 2 * (k + 1) = 2 * k + 1 + 1 by omega, take_snoc h, take_snoc (by omega), List.append_assoc]; rfl
theorem jn_step {l : List Nat} {k : Nat} (h : 2 * k + 1 < l.length) : jn (l.take (2 * (k + 1))) = jn (l.take (2 * k)) ++ [16 * l.getD (2 * k) 0 + l.getD (2 * k + 1) 0] := by
  rw [take_snoc2 h, jn_append _ _ (by rw [List.length_take, Nat.min_eq_left (by omega)]; omega)]; rfl
theorem jn_take_len {l : List Nat} {k : Nat} (h : 2 * k ≤ l.length) : (jn (l.take (2 * k))).length = k := by
  rw [jn_length, List.length_take, Nat.min_eq_left h]; omega
theorem allN_step {l : List Nat} {k : Nat} (h : 2 * k + 1 < l.length) (ha : allN (l.take (2 * k)) = true) (h0 : l.getD (2 * k) 0 < 16) (h1 : l.getD (2 * k + 1) 0 < 16) : allN (l.take (2 * (k + 1))) = true := by
  rw [take_snoc2 h, allN_append, ha, allN_cons, allN_cons]; simp [h0, h1, allN]
  exact ⟨by simpa using h0, by simpa using h1⟩
theorem allN_bad {l : List Nat} {j m : Nat} (hj : j < m) (h : j < l.length) (hx : 15 < l.getD j 0) : allN (l.take m) = false := by
  cases hq : allN (l.take m) with
  | false => rfl
  | true =>
    have := allN_iff.1 hq (l.getD j 0) (by
      rw [List.getD_eq_getElem?_getD, List.getElem?_eq_getElem h]
      exact List.mem_take_iff_getElem.2 ⟨j, by omega, rfl⟩)
    omega
theorem shl_or (x v : Nat) (hx : x < 16) (hv : v < 16) : bits BinOp.or IntKind.u8 ((x : Int) * 16) (v : Int) = ((16 * x + v : Nat) : Int) := by
  have all : ∀ a b : Fin 16, bits BinOp.or IntKind.u8 ((a.val : Int) * 16) (b.val : Int) = ((16 * a.val + b.val : Nat) : Int) := by decide +kernel
  exact all ⟨x, hx⟩ ⟨v, hv⟩
def JoinPost (bb ob n0 m : Nat) (t : TypeId) (f : Nat → Nat) (l : List Nat) (w : World) (e : Ending) (w' : World) : Prop :=
  e = .returned (.bool (allN (l.take (2 * m)))) ∧ Tch [bb] w w' ∧ ∃ f', Blk w' bb t (bc n0 f') ∧ (allN (l.take (2 * m)) = true → f' = wr f ob (jn (l.take (2 * m))))
set_option maxHeartbeats 1000000 in
set_option maxRecDepth 100000 in
theorem join_any (pb : Option Addr) (m cb bb ob n0 : Nat) (v : Value) (l : List Nat) (t : TypeId) (f : Nat → Nat) (w : World) (hp : m ≠ 0 → pb = some ⟨bb, ob, none⟩) (hm2 : 2 * m ≤ l.length) (hn0 : ob + m ≤ n0) (hm : l.length ≤ 100000000) (hv : RdA [bb] w v l) (hB : Blk w bb t (bc n0 f)) :
    Calls Try.prog 100 #[.slice pb m cb, v] w (JoinPost bb ob n0 m t f l w) := by
  have hS := St.one hB
  obtain ⟨_, c', rfl, hcap, hb, hc⟩ := id hv
  have HP := Lib.hid hp
  have HC := Lib.hid hc
  have HB := Lib.hid hb
  clear hp hc hb hv hB
  go_enter Try.func100, Try.ntmps100
  go_wp2
  go_loopw [10] (fun i wr' => ∃ k : Nat, k ≤ m ∧ i = .int .i64 (k : Int) ∧ St [bb] w wr' [(bb, t, bc n0 (wr f ob (jn (l.take (2 * k)))))] ∧ Hid (allN (l.take (2 * k)) = true)) (fun i _ => m - (intOf i).toNat)
  case atStart => exact ⟨0, Nat.zero_le _, rfl, by simpa [jn, wr_nil] using hS, Lib.hid rfl⟩
  case round =>
    clear hS
    obtain ⟨k, hk, rfl, hS, HA⟩ := hrel
    by_cases hlt : k < m
    · have hne : l ≠ [] := by intro e; subst e; simp at hm2; omega
      obtain rfl := HP.out (by omega)
      obtain ⟨b, o, rfl, hbw, hbX, hc⟩ := HC.out hne
      have h0 : 2 * k < l.length := by omega
      have h1 : 2 * k + 1 < l.length := by omega
      have hx := HB.out (l.getD (2 * k) 0) (by rw [List.getD_eq_getElem?_getD, List.getElem?_eq_getElem h0]; exact List.getElem_mem h0)
      have hy := HB.out (l.getD (2 * k + 1) 0) (by rw [List.getD_eq_getElem?_getD, List.getElem?_eq_getElem h1]; exact List.getElem_mem h1)
      have hck := (hS.frame.cell (p := ⟨b, o + 2 * k, none⟩) hbw hbX).trans (hc _ h0)
      have hck1 := (hS.frame.cell (p := ⟨b, o + (2 * k + 1), none⟩) hbw hbX).trans (hc _ h1)
      have hst := jn_step h1
      have hal := fun a b => allN_step h1 HA.out a b
      have hb0 := fun h => allN_bad (l := l) (j := 2 * k) (m := 2 * m) (by omega) h0 h
      have hb1 := fun h => allN_bad (l := l) (j := 2 * k + 1) (m := 2 * m) (by omega) h1 h
      obtain ⟨x, hxx⟩ : ∃ x, x = l.getD (2 * k) 0 := ⟨_, rfl⟩
      obtain ⟨y, hyy⟩ : ∃ y, y = l.getD (2 * k + 1) 0 := ⟨_, rfl⟩
      rw [← hxx] at hck hx hst hal hb0
      rw [← hyy] at hck1 hy hst hal hb1
      have HST := Lib.hid hst
      have HAL := Lib.hid hal
      have HB0 := Lib.hid hb0
      have HB1 := Lib.hid hb1
      have HL := Lib.hid (jn_take_len (l := l) (k := k) (by omega))
      have HE := Lib.hid (And.intro hxx hyy)
      have hw1 : IntKind.i64.wrap (2 * (k : Int)) = 2 * (k : Int) := by rw [IntKind.wrap_i64]; omega
      clear hc hxx hyy hst hal hb0 hb1
      have q1 : (0 : Int) ≤ 2 * (k : Int) := by omega
      have q2 : 2 * (k : Int) < (l.length : Int) := by omega
      have q3 : (2 * (k : Int)).toNat = 2 * k := by omega
      have q4 : (0 : Int) ≤ 2 * (k : Int) + 1 := by omega
      have q5 : 2 * (k : Int) + 1 < (l.length : Int) := by omega
      have q6 : (2 * (k : Int) + 1).toNat = 2 * k + 1 := by omega
      have q7 : IntKind.i64.wrap (2 * (k : Int) + 1) = 2 * (k : Int) + 1 := by rw [IntKind.wrap_i64]; omega
      by_cases hx15 : 15 < x
      · have hd : (15 : Int) < (x : Int) := by omega
        go_wp2
        refine wp_region_all (C := fun w' => ∃ k, w' = wr.drewN k) (by kernel_rfl) (by kernel_rfl) ⟨1, rfl⟩ ?_
        repeat (quiet_step (fail))
        refine wpQuiet_nil ?_
        rintro w2 ⟨nq, rfl⟩
        go_wp2
        go_ret
        rw [JoinPost, HB0.out hx15]
        exact ⟨rfl, (hS.drewN nq).frame, _, (hS.drewN nq).get .head, fun h => by cases h⟩
      · have hd : ¬ (15 : Int) < (x : Int) := by omega
        by_cases hy15 : 15 < y
        · have hd1 : (15 : Int) < (y : Int) := by omega
          go_wp2
          refine wp_region_all (C := fun w' => ∃ k, w' = wr.drewN k) (by kernel_rfl) (by kernel_rfl) ⟨1, rfl⟩ ?_
          repeat (quiet_step (fail))
          refine wpQuiet_nil ?_
          rintro w2 ⟨nq, rfl⟩
          go_wp2
          go_ret
          rw [JoinPost, HB1.out hy15]
          exact ⟨rfl, (hS.drewN nq).frame, _, (hS.drewN nq).get .head, fun h => by cases h⟩
        · have hd1 : ¬ (15 : Int) < (y : Int) := by omega
          have hso := shl_or x y (by omega) (by omega)
          have hxy : 16 * x + y < 256 := by omega
          go_wp2
          refine wp_region_all (C := fun w' => ∃ k, w' = wr.drewN k) (by kernel_rfl) (by kernel_rfl) ⟨1, rfl⟩ ?_
          repeat (quiet_step (fail))
          refine wpQuiet_nil ?_
          rintro w2 ⟨nq, rfl⟩
          replace hS := hS.drewN nq
          go_wp2_with (refine st_store1 (b := bb) (j := ob + k) hS rfl 5 _ _ rfl (by rfl) rfl u8_size (by repeat (first | exact Upd.head | apply Upd.tail)) (by rw [bc_size]; omega) ?_; clear hS; intro w5 hS)
          go_roundw
          case rel =>
            refine ⟨k + 1, hlt, by go_num, ?_, Lib.hid (HAL.out (by omega) (by omega))⟩
            rw [HST.out, ← wr_snoc (by rw [HL.out]; omega), HL.out]
            exact hS
          case measure => simp [intOf]; omega
    · obtain rfl : k = m := by omega
      go_wp2
      go_ret
      exact ⟨by rw [HA.out]; rfl, hS.frame, _, hS.get .head, fun _ => rfl⟩
end Go.Proofs.Ytfdihphhmhgejaa

/- path.Split, path.Join. -/
namespace Go.Proofs.Ytfdihphhmhgejaa
open Go.RowKit

/-- The bytes whose half bytes they are. -/
def joinL (l : List Nat) : Option (List Nat) := if l.length % 2 = 0 ∧ allN l = true then some (jn l) else none
/-- Bytes, or none. -/
def OptPost (w : World) (r : Option (List Nat)) (e : Ending) (w' : World) : Prop := Tch [] w w' ∧ ∃ v, e = .returned (.tuple #[v, .bool r.isSome]) ∧ RdA [] w' v (r.getD [])
theorem optpost_no {w w' : World} {r : Option (List Nat)} (hr : r = none) (hT : Tch [] w w') : OptPost w r (.returned (.tuple #[.slice none 0 0, .bool false])) w' := by
  subst hr; exact ⟨hT, _, rfl, (RdB.nil w').rdA (by simp)⟩
theorem optpost_yes {w w' : World} {r : Option (List Nat)} {v : Value} {l : List Nat} (hr : r = some l) (hT : Tch [] w w') (hv : RdA [] w' v l) : OptPost w r (.returned (.tuple #[v, .bool true])) w' := by
  subst hr; exact ⟨hT, _, rfl, hv⟩
theorem RdA.ofBlk' {X : List Nat} {w : World} {b n : Nat} {l : List Nat} {f : Nat → Nat} (h : Blk w b 5 (bc n (wr f 0 l))) (hn : l.length = n) (hl : ∀ x ∈ l, x < 256) (hb : b ∉ X) : RdA X w (.slice (some ⟨b, 0, none⟩) n n) l := by
  subst hn
  rw [wr_zero] at h
  exact RdA.ofBlk h hl hb
theorem RdA.fresh {w w1 : World} {v : Value} {l : List Nat} {b : Nat} (h : RdA [] w v l) (hT : Tch [] w w1) (hb : w.heap.size ≤ b) : RdA [b] w1 v l :=
  (h.mono (Y := [b]) (fun y hy => .inr (by simp at hy; subst hy; exact hb))).tch (hT.mono (fun x hx => by simp at hx))
set_option maxHeartbeats 1000000 in
set_option maxRecDepth 100000 in
theorem Split_any (v : Value) (l : List Nat) (w : World) (hm : l.length ≤ 1000000) (hv : RdA [] w v l) :
    Calls Try.prog 44 #[v] w fun e w' => ∃ v', e = .returned v' ∧ Tch [] w w' ∧ RdA [] w' v' (nibs l) := by
  have hS := St.start w
  obtain ⟨_, n, c', rfl⟩ := slice_keep hv
  have hlen := hv.len
  obtain ⟨N, hN⟩ : ∃ N, N = 2 * n := ⟨_, rfl⟩
  have hn2 : 2 * (n : Int) = (N : Int) := by omega
  have hn6 : N ≤ 16000000 := by omega
  have hcall := fun (b : Nat) (w1 : World) (hS : St [] w w1 [(b, 5, bc N fun _ => 0)]) =>
    split_any (some ⟨b, 0, none⟩) N N b 0 N _ l 5 _ w1 (fun _ => rfl) (by omega) (by omega) (by omega) (hv.fresh hS.frame ((hS.own .head).resolve_right (by simp))) (hS.get .head)
  have HK := Lib.hid hcall
  have hend := nibs_length l
  have HE := Lib.hid (show (nibs l).length = N by omega)
  have HLT := Lib.hid (nibs_lt hv.lt)
  clear hcall hend hv hN hlen
  go_enter Try.func44, Try.ntmps44
  go_wp2_with (first
    | (refine st_makeB N hS rfl _ _ rfl (by rw [← hn2]; rfl) (by rw [← hn2]; rfl) (by omega) ?_; clear hS; intro w1 b1 hS)
    | (go_at_call 71; (with_reducible refine (HK.out _ _ hS).mono ?_); rintro e w2 ⟨rfl, hT2, hB2⟩; replace hS := hS.on1 .head hT2 hB2))
  go_ret
  exact ⟨_, rfl, hS.frame, RdA.ofBlk' (hS.get .head) HE.out (fun x hx => Nat.lt_of_lt_of_le (HLT.out x hx) (by decide)) (by simp)⟩
end Go.Proofs.Ytfdihphhmhgejaa
