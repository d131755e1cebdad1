/- Paths: half bytes of bytes and back; path.split, the document's Split. -/
import Derived.Test.YtanmpcgackfpaaaGreatM01
import Derived.Deep.RegionLawGrows
import Derived.Deep.AppendLies
set_option linter.unusedVariables false
set_option linter.unusedSimpArgs false
namespace Go.Proofs.YtanmpcgackfpaaaGreat
section
open Go.RowKit
def nibs (l : List Nat) : List Nat := l.flatMap fun x => [x / 16, x % 16]
theorem nibs_cons (x : Nat) (l : List Nat) : nibs (x :: l) = x / 16 :: x % 16 :: nibs l := rfl
theorem nibs_append (l m : List Nat) : nibs (l ++ m) = nibs l ++ nibs m := by simp [nibs]
theorem nibs_length : ∀ l : List Nat, (nibs l).length = 2 * l.length
  | [] => rfl
  | x :: l => by rw [nibs_cons]; simp only [List.length_cons, nibs_length l]; omega
theorem nibs_lt {l : List Nat} (h : ∀ x ∈ l, x < 256) : ∀ y ∈ nibs l, y < 16 := by
  intro y hy
  obtain ⟨x, hx, hy⟩ := List.mem_flatMap.1 hy
  have := h x hx
  simp only [List.mem_cons, List.not_mem_nil, or_false] at hy
  omega
theorem take_snoc {l : List Nat} {k : Nat} (h : k < l.length) : l.take (k + 1) = l.take k ++ [l.getD k 0] := by
  rw [List.take_succ_eq_append_getElem h]; simp [h]
theorem nibs_step {l : List Nat} {k : Nat} (h : k < l.length) : nibs (l.take (k + 1)) = (nibs (l.take k) ++ [l.getD k 0 / 16]) ++ [l.getD k 0 % 16] := by
  rw [take_snoc h, nibs_append, List.append_assoc]; rfl
theorem nibs_take_len {l : List Nat} {k : Nat} (h : k ≤ l.length) : (nibs (l.take k)).length = 2 * k := by
  rw [nibs_length, List.length_take, Nat.min_eq_left h]
theorem wr_snoc {n0 : Nat} {f : Nat → Nat} {o x : Nat} {m : List Nat} (h : o + m.length < n0) : (bc n0 (wr f o m)).setIfInBounds (o + m.length) (.int .u8 (x : Int)) = bc n0 (wr f o (m ++ [x])) := by
  rw [bc_set h]
  refine bc_congr fun i _ => ?_
  unfold wr
  rw [List.length_append, List.length_singleton]
  by_cases h1 : i = o + m.length
  · subst h1
    rw [if_pos rfl, if_pos (by omega), List.getD_eq_getElem?_getD, List.getElem?_append_right (by omega)]
    simp
  · rw [if_neg h1]
    by_cases h2 : o ≤ i ∧ i < o + m.length
    · rw [if_pos h2, if_pos (by omega), List.getD_eq_getElem?_getD, List.getD_eq_getElem?_getD, List.getElem?_append_left (by omega)]
    · rw [if_neg h2, if_neg (by omega)]
theorem shr4 (x : Nat) : (x : Int) / 16 = ((x / 16 : Nat) : Int) := by omega
theorem and15 (x : Nat) (h : x < 256) : bits BinOp.and IntKind.u8 (x : Int) 15 = ((x % 16 : Nat) : Int) := by
  have all : ∀ a : Fin 256, bits BinOp.and IntKind.u8 (a.val : Int) 15 = ((a.val % 16 : Nat) : Int) := by decide +kernel
  exact all ⟨x, h⟩
set_option maxHeartbeats 1000000 in
set_option maxRecDepth 100000 in
theorem split_any (pp : Option Addr) (n c bp op n0 : Nat) (v : Value) (l : List Nat) (t : TypeId) (f : Nat → Nat) (w : World) (hp : l ≠ [] → pp = some ⟨bp, op, none⟩) (hn : 2 * l.length ≤ n) (hn0 : op + 2 * l.length ≤ n0) (hm : l.length ≤ 100000000) (hv : RdA [bp] w v l) (hB : Blk w bp t (bc n0 f)) :
    Calls Tryz.prog 106 #[.slice pp n c, v] w fun e w' => e = .returned (.tuple #[]) ∧ Tch [bp] w w' ∧ Blk w' bp t (bc n0 (wr f op (nibs l))) := by
  have hS := St.one hB
  obtain ⟨p', n', c', rfl⟩ := qb3 hv
  have hlen := hv.len
  obtain ⟨_, _, hq, hcap, hb, hc⟩ := id hv
  cases hq
  clear hlen
  have HP := hQz hp
  have HC := hQz hc
  have HB := hQz hb
  clear hp hc hb hv hB
  go_enter Tryz.func106, Tryz.ntmps106
  go_wp2
  go_loopw [8] (fun i wr' => ∃ k : Nat, k ≤ l.length ∧ i = .int .i64 (k : Int) ∧ St [bp] w wr' [(bp, t, bc n0 (wr f op (nibs (l.take k))))]) (fun i _ => l.length - (intOf i).toNat)
  case atStart => exact ⟨0, Nat.zero_le _, rfl, by simpa [nibs, wr_nil] using hS⟩
  case round =>
    clear hS
    obtain ⟨k, hk, rfl, hS⟩ := hrel
    by_cases hlt : k < l.length
    · have hne : l ≠ [] := by intro e; subst e; simp at hlt
      obtain rfl := HP.out hne
      obtain ⟨b, o, rfl, hbw, hbX, hc⟩ := HC.out hne
      have hx := HB.out (l.getD k 0) (by rw [List.getD_eq_getElem?_getD, List.getElem?_eq_getElem hlt]; exact List.getElem_mem hlt)
      have hck := (hS.frame.cell (p := ⟨b, o + k, none⟩) hbw hbX).trans (hc k hlt)
      obtain ⟨x, hxx⟩ : ∃ x, x = l.getD k 0 := ⟨_, rfl⟩
      rw [← hxx] at hck hx
      have hst := nibs_step hlt
      rw [← hxx] at hst
      have HST := hQz hst
      have HL := hQz (nibs_take_len hk)
      have h16 := and15 x hx
      have H4 := hQz (shr4 x)
      have hw1 : IntKind.i64.wrap (2 * (k : Int)) = 2 * (k : Int) := by rw [IntKind.wrap_i64]; omega
      have HS0 := hQz (And.intro hn hn0)
      have HXX := hQz hxx
      clear hc hxx hst
      go_wp2_with (first
        | (refine qa7 (b := bp) (j := op + 2 * k) hS rfl 5 _ _ rfl (by rfl) rfl qb6 (by repeat (first | exact Upd.head | apply Upd.tail)) (by rw [bc_size]; omega) ?_; clear hS; intro w5 hS)
        | (refine qa7 (b := bp) (j := op + (2 * k + 1)) hS rfl 5 _ _ rfl (by rfl) rfl qb6 (by repeat (first | exact Upd.head | apply Upd.tail)) (by rw [Array.size_setIfInBounds, bc_size]; omega) ?_; clear hS; intro w6 hS))
      go_roundw
      case rel =>
        refine ⟨k + 1, hlt, by go_num, ?_⟩
        rw [HST.out, ← wr_snoc (by rw [List.length_append, HL.out]; simp; omega), ← wr_snoc (by rw [HL.out]; omega), List.length_append, HL.out]
        rw [← H4.out]
        exact hS
      case measure => simp [intOf]; omega
    · obtain rfl : k = l.length := by omega
      go_wp2
      go_end0
      refine ⟨rfl, hS.frame, ?_⟩
      have := hS.get .head
      rwa [List.take_length] at this
end
section
open Go.RowKit
set_option maxHeartbeats 1000000 in
set_option maxRecDepth 100000 in
theorem refSplit_any (v : Value) (l : List Nat) (w : World) (hm : l.length ≤ 1000000) (hv : RdA [] w v l) :
    Calls Tryz.prog 38 #[v] w fun e w' => ∃ v', e = .returned v' ∧ Tch [] w w' ∧ w'.ownsRow w.heap.size 5 1 v' (nibs l).length (nb (nibs l)) := by
  obtain ⟨i0, hi, hz0, hz1, hz2⟩ := info_parts A_info
  obtain ⟨_, c', rfl, hcap, hb, hc⟩ := id hv
  have HC := hQz hc
  have HB := hQz hb
  clear hc hb hv
  go_enter Tryz.func38, Tryz.ntmps38
  go_wp2
  go_loopw [3, 4] (fun o i wr => ∃ k : Nat, k ≤ l.length ∧ i = .int .i64 (k : Int) ∧ wr.ownsRow w.heap.size 5 1 o (nibs (l.take k)).length (nb (nibs (l.take k))) ∧ Tch [] w wr) (fun _ i _ => l.length - (intOf i).toNat)
  case atStart => exact ⟨0, Nat.zero_le _, rfl, own_nil _ _, Tch.refl _ _⟩
  case round =>
    obtain ⟨k, hk, rfl, hown, hT⟩ := hrel
    by_cases hlt : k < l.length
    · have hne : l ≠ [] := by intro e; subst e; simp at hlt
      obtain ⟨b, o, rfl, hbw, hbX, hc⟩ := HC.out hne
      have hx := HB.out (l.getD k 0) (by rw [List.getD_eq_getElem?_getD, List.getElem?_eq_getElem hlt]; exact List.getElem_mem hlt)
      have hck := (hT.cell (p := ⟨b, o + k, none⟩) hbw hbX).trans (hc k hlt)
      obtain ⟨x, hxx⟩ : ∃ x, x = l.getD k 0 := ⟨_, rfl⟩
      rw [← hxx] at hck hx
      have hst := nibs_step hlt
      rw [← hxx, List.append_assoc] at hst
      have HST := hQz hst
      have HL := hQz (nibs_take_len hk)
      have h16 := and15 x hx
      have H4 := hQz (shr4 x)
      have HXX := hQz hxx
      clear hc hxx hst
      have hne : u3.ownBlock ≠ some b := fun e => by have := (hown.lt b e).1; omega
      have hpr := hT.size
      have hlen := HL.out
      have hki : (k : Int) < (l.length : Int) := by omega
      have hbr : b < wr.heap.size := by omega
      go_wp2
      go_region_held3 (fun w' => w'.cell? ⟨b, o + k, none⟩ = some (.int .u8 (x : Int)))
        (first
          | go_keep
          | (go_split_ands
             (rw [hgrow.cell_far _ (by simp; omega) (Ne.symm hne)]; assumption)))
        ((refine step_append_lies _ (by rfl) _ _ _ (by rfl) w.heap.size 5 i0 _ 1 1 qb5 hi hz0 hz1 hz2 rfl (by omega) u3 _ _ (by rfl) ((hown.alloc _).drew) ⟨wr.heap.size, 0, none⟩ 2 2 [.int .u8 ((x : Int) / 16), .int .u8 ((x : Int) % 16)] (by rfl) (by rfl) (World.news_of_block (cs := #[.int .u8 ((x : Int) / 16), .int .u8 ((x : Int) % 16)]) (t := 5) (fr := (0, 0)) (heap_alloc_new wr (.cells #[.int .u8 ((x : Int) / 16), .int .u8 ((x : Int) % 16)] 5))) (by simp [Value.oneCell']) (by omega) (by unfold maxLen; omega) (by omega) (by simp; omega) (wr.heap.size + 1) (by simp) ?_; intro gg cap w1 hown1 hgrow hat hlt1))
      all_goals
        have hown2 : w1.ownsRow w.heap.size 5 1 (.slice (some ⟨gg, 0, none⟩) ((nibs (l.take k)).length + 2) cap) (nibs (l.take (k + 1))).length (nb (nibs (l.take (k + 1)))) := by
          have e : nb (nibs (l.take (k + 1))) = nb (nibs (l.take k)) ++ [.int .u8 ((x : Int) / 16), .int .u8 ((x : Int) % 16)] := by
            rw [HST.out]; simp [nb]
          rw [e, HST.out, List.length_append]; exact hown1
        have hb2 : Tch [] w w1 := Tch.of_below (((hT.below.alloc hT.size _).drew).grown hgrow (by simp; omega) (fun g hg => (hown.lt g hg).1))
        clear hown1 hgrow hat hlt1 hck hown hT
        go_wp2
        go_roundw
        case rel => exact ⟨k + 1, hlt, by go_num, by rw [hlen] at hown2; exact hown2, hb2⟩
        case measure => simp [intOf]; omega
    · obtain rfl : k = l.length := by omega
      go_wp2
      go_ret
      exact ⟨_, rfl, hT, by rw [List.take_length] at hown; exact hown⟩
end
section
open Go.RowKit
def jn : List Nat → List Nat
  | x :: y :: r => (16 * x + y) :: jn r
  | _ => []
theorem jn_append : ∀ (l m : List Nat), l.length % 2 = 0 → jn (l ++ m) = jn l ++ jn m
  | [], m, _ => rfl
  | [_], m, h => by simp at h
  | x :: y :: r, m, h => by
    have h' : r.length % 2 = 0 := by simp at h; omega
    show (16 * x + y) :: jn (r ++ m) = _
    rw [jn_append r m h']; rfl
theorem jn_length : ∀ l : List Nat, (jn l).length = l.length / 2
  | [] => rfl
  | [_] => by simp [jn]
  | x :: y :: r => by
    show (jn r).length + 1 = _
    rw [jn_length r]; simp; omega
def allN (l : List Nat) : Bool := l.all fun x => decide (x < 16)
theorem allN_iff {l : List Nat} : allN l = true ↔ ∀ x ∈ l, x < 16 := by simp [allN]
theorem allN_append (l m : List Nat) : allN (l ++ m) = (allN l && allN m) := by simp [allN]
theorem allN_cons (x : Nat) (l : List Nat) : allN (x :: l) = (decide (x < 16) && allN l) := by simp [allN]
theorem jn_lt : ∀ l : List Nat, allN l = true → ∀ x ∈ jn l, x < 256
  | [], _, x, hx => by simp [jn] at hx
  | [_], _, x, hx => by simp [jn] at hx
  | a :: b :: r, ha, x, hx => by
    have h1 : a < 16 := allN_iff.1 ha a (by simp)
    have h2 : b < 16 := allN_iff.1 ha b (by simp)
    have hr : allN r = true := allN_iff.2 fun z hz => allN_iff.1 ha z (by simp [hz])
    rcases List.mem_cons.1 hx with rfl | hx
    · omega
    · exact jn_lt r hr x hx
theorem take_snoc2 {l : List Nat} {k : Nat} (h : 2 * k + 1 < l.length) : l.take (2 * (k + 1)) = l.take (2 * k) ++ [l.getD (2 * k) 0, l.getD (2 * k + 1) 0] := by
  rw [show 2 * (k + 1) = 2 * k + 1 + 1 by omega, take_snoc h, take_snoc (by omega), List.append_assoc]; rfl
theorem jn_step {l : List Nat} {k : Nat} (h : 2 * k + 1 < l.length) : jn (l.take (2 * (k + 1))) = jn (l.take (2 * k)) ++ [16 * l.getD (2 * k) 0 + l.getD (2 * k + 1) 0] := by
  rw [take_snoc2 h, jn_append _ _ (by rw [List.length_take, Nat.min_eq_left (by omega)]; omega)]; rfl
theorem jn_take_len {l : List Nat} {k : Nat} (h : 2 * k ≤ l.length) : (jn (l.take (2 * k))).length = k := by
  rw [jn_length, List.length_take, Nat.min_eq_left h]; omega
theorem allN_step {l : List Nat} {k : Nat} (h : 2 * k + 1 < l.length) (ha : allN (l.take (2 * k)) = true) (h0 : l.getD (2 * k) 0 < 16) (h1 : l.getD (2 * k + 1) 0 < 16) : allN (l.take (2 * (k + 1))) = true := by
  rw [take_snoc2 h, allN_append, ha, allN_cons, allN_cons]; simp [h0, h1, allN]
  exact ⟨by simpa using h0, by simpa using h1⟩
theorem allN_bad {l : List Nat} {j m : Nat} (hj : j < m) (h : j < l.length) (hx : 15 < l.getD j 0) : allN (l.take m) = false := by
  cases hq : allN (l.take m) with
  | false => rfl
  | true =>
    have := allN_iff.1 hq (l.getD j 0) (by
      rw [List.getD_eq_getElem?_getD, List.getElem?_eq_getElem h]
      exact List.mem_take_iff_getElem.2 ⟨j, by omega, rfl⟩)
    omega
theorem shl_or (x v : Nat) (hx : x < 16) (hv : v < 16) : bits BinOp.or IntKind.u8 ((x : Int) * 16) (v : Int) = ((16 * x + v : Nat) : Int) := by
  have all : ∀ a b : Fin 16, bits BinOp.or IntKind.u8 ((a.val : Int) * 16) (b.val : Int) = ((16 * a.val + b.val : Nat) : Int) := by decide +kernel
  exact all ⟨x, hx⟩ ⟨v, hv⟩
def JoinPost (bb ob n0 m : Nat) (t : TypeId) (f : Nat → Nat) (l : List Nat) (w : World) (e : Ending) (w' : World) : Prop :=
  e = .returned (.bool (allN (l.take (2 * m)))) ∧ Tch [bb] w w' ∧ ∃ f', Blk w' bb t (bc n0 f') ∧ (allN (l.take (2 * m)) = true → f' = wr f ob (jn (l.take (2 * m))))
set_option maxHeartbeats 1000000 in
set_option maxRecDepth 100000 in
theorem join_any (pb : Option Addr) (m cb bb ob n0 : Nat) (v : Value) (l : List Nat) (t : TypeId) (f : Nat → Nat) (w : World) (hp : m ≠ 0 → pb = some ⟨bb, ob, none⟩) (hm2 : 2 * m ≤ l.length) (hn0 : ob + m ≤ n0) (hm : l.length ≤ 100000000) (hv : RdA [bb] w v l) (hB : Blk w bb t (bc n0 f)) :
    Calls Tryz.prog 135 #[.slice pb m cb, v] w (JoinPost bb ob n0 m t f l w) := by
  have hS := St.one hB
  obtain ⟨_, c', rfl, hcap, hb, hc⟩ := id hv
  have HP := hQz hp
  have HC := hQz hc
  have HB := hQz hb
  clear hp hc hb hv hB
  go_enter Tryz.func135, Tryz.ntmps135
  go_wp2
  go_loopw [10] (fun i wr' => ∃ k : Nat, k ≤ m ∧ i = .int .i64 (k : Int) ∧ St [bb] w wr' [(bb, t, bc n0 (wr f ob (jn (l.take (2 * k)))))] ∧ Hid (allN (l.take (2 * k)) = true)) (fun i _ => m - (intOf i).toNat)
  case atStart => exact ⟨0, Nat.zero_le _, rfl, by simpa [jn, wr_nil] using hS, hQz rfl⟩
  case round =>
    clear hS
    obtain ⟨k, hk, rfl, hS, HA⟩ := hrel
    by_cases hlt : k < m
    · have hne : l ≠ [] := by intro e; subst e; simp at hm2; omega
      obtain rfl := HP.out (by omega)
      obtain ⟨b, o, rfl, hbw, hbX, hc⟩ := HC.out hne
      have h0 : 2 * k < l.length := by omega
      have h1 : 2 * k + 1 < l.length := by omega
      have hx := HB.out (l.getD (2 * k) 0) (by rw [List.getD_eq_getElem?_getD, List.getElem?_eq_getElem h0]; exact List.getElem_mem h0)
      have hy := HB.out (l.getD (2 * k + 1) 0) (by rw [List.getD_eq_getElem?_getD, List.getElem?_eq_getElem h1]; exact List.getElem_mem h1)
      have hck := (hS.frame.cell (p := ⟨b, o + 2 * k, none⟩) hbw hbX).trans (hc _ h0)
      have hck1 := (hS.frame.cell (p := ⟨b, o + (2 * k + 1), none⟩) hbw hbX).trans (hc _ h1)
      have hst := jn_step h1
      have hal := fun a b => allN_step h1 HA.out a b
      have hb0 := fun h => allN_bad (l := l) (j := 2 * k) (m := 2 * m) (by omega) h0 h
      have hb1 := fun h => allN_bad (l := l) (j := 2 * k + 1) (m := 2 * m) (by omega) h1 h
      obtain ⟨x, hxx⟩ : ∃ x, x = l.getD (2 * k) 0 := ⟨_, rfl⟩
      obtain ⟨y, hyy⟩ : ∃ y, y = l.getD (2 * k + 1) 0 := ⟨_, rfl⟩
      rw [← hxx] at hck hx hst hal hb0
      rw [← hyy] at hck1 hy hst hal hb1
      have HST := hQz hst
      have HAL := hQz hal
      have HB0 := hQz hb0
      have HB1 := hQz hb1
      have HL := hQz (jn_take_len (l := l) (k := k) (by omega))
      have HE := hQz (And.intro hxx hyy)
      have hw1 : IntKind.i64.wrap (2 * (k : Int)) = 2 * (k : Int) := by rw [IntKind.wrap_i64]; omega
      clear hc hxx hyy hst hal hb0 hb1
      have q1 : (0 : Int) ≤ 2 * (k : Int) := by omega
      have q2 : 2 * (k : Int) < (l.length : Int) := by omega
      have q3 : (2 * (k : Int)).toNat = 2 * k := by omega
      have q4 : (0 : Int) ≤ 2 * (k : Int) + 1 := by omega
      have q5 : 2 * (k : Int) + 1 < (l.length : Int) := by omega
      have q6 : (2 * (k : Int) + 1).toNat = 2 * k + 1 := by omega
      have q7 : IntKind.i64.wrap (2 * (k : Int) + 1) = 2 * (k : Int) + 1 := by rw [IntKind.wrap_i64]; omega
      by_cases hx15 : 15 < x
      · have hd : (15 : Int) < (x : Int) := by omega
        go_wp2
        refine ql6 (C := fun w' => ∃ k, w' = wr.drewN k) (by kernel_rfl) (by kernel_rfl) ⟨1, rfl⟩ ?_
        repeat (quiet_step (fail))
        refine wpQuiet_nil ?_
        rintro w2 ⟨nq, rfl⟩
        go_wp2
        go_ret
        rw [JoinPost, HB0.out hx15]
        exact ⟨rfl, (hS.drewN nq).frame, _, (hS.drewN nq).get .head, fun h => by cases h⟩
      · have hd : ¬ (15 : Int) < (x : Int) := by omega
        by_cases hy15 : 15 < y
        · have hd1 : (15 : Int) < (y : Int) := by omega
          go_wp2
          refine ql6 (C := fun w' => ∃ k, w' = wr.drewN k) (by kernel_rfl) (by kernel_rfl) ⟨1, rfl⟩ ?_
          repeat (quiet_step (fail))
          refine wpQuiet_nil ?_
          rintro w2 ⟨nq, rfl⟩
          go_wp2
          go_ret
          rw [JoinPost, HB1.out hy15]
          exact ⟨rfl, (hS.drewN nq).frame, _, (hS.drewN nq).get .head, fun h => by cases h⟩
        · have hd1 : ¬ (15 : Int) < (y : Int) := by omega
          have hso := shl_or x y (by omega) (by omega)
          have hxy : 16 * x + y < 256 := by omega
          go_wp2
          refine ql6 (C := fun w' => ∃ k, w' = wr.drewN k) (by kernel_rfl) (by kernel_rfl) ⟨1, rfl⟩ ?_
          repeat (quiet_step (fail))
          refine wpQuiet_nil ?_
          rintro w2 ⟨nq, rfl⟩
          replace hS := hS.drewN nq
          go_wp2_with (refine qa7 (b := bb) (j := ob + k) hS rfl 5 _ _ rfl (by rfl) rfl qb6 (by repeat (first | exact Upd.head | apply Upd.tail)) (by rw [bc_size]; omega) ?_; clear hS; intro w5 hS)
          go_roundw
          case rel =>
            refine ⟨k + 1, hlt, by go_num, ?_, hQz (HAL.out (by omega) (by omega))⟩
            rw [HST.out, ← wr_snoc (by rw [HL.out]; omega), HL.out]
            exact hS
          case measure => simp [intOf]; omega
    · obtain rfl : k = m := by omega
      go_wp2
      go_ret
      exact ⟨by rw [HA.out]; rfl, hS.frame, _, hS.get .head, fun _ => rfl⟩
end
section
open Go.RowKit
def joinL (l : List Nat) : Option (List Nat) := if l.length % 2 = 0 ∧ allN l = true then some (jn l) else none
def OptPost (w : World) (r : Option (List Nat)) (e : Ending) (w' : World) : Prop := Tch [] w w' ∧ ∃ v, e = .returned (.tuple #[v, .bool r.isSome]) ∧ RdA [] w' v (r.getD [])
theorem optpost_no {w w' : World} {r : Option (List Nat)} (hr : r = none) (hT : Tch [] w w') : OptPost w r (.returned (.tuple #[.slice none 0 0, .bool false])) w' := by
  subst hr; exact ⟨hT, _, rfl, (RdB.nil w').rdA (by simp)⟩
theorem optpost_yes {w w' : World} {r : Option (List Nat)} {v : Value} {l : List Nat} (hr : r = some l) (hT : Tch [] w w') (hv : RdA [] w' v l) : OptPost w r (.returned (.tuple #[v, .bool true])) w' := by
  subst hr; exact ⟨hT, _, rfl, hv⟩
theorem RdA.ofBlk' {X : List Nat} {w : World} {b n : Nat} {l : List Nat} {f : Nat → Nat} (h : Blk w b 5 (bc n (wr f 0 l))) (hn : l.length = n) (hl : ∀ x ∈ l, x < 256) (hb : b ∉ X) : RdA X w (.slice (some ⟨b, 0, none⟩) n n) l := by
  subst hn
  rw [wr_zero] at h
  exact RdA.ofBlk h hl hb
theorem RdA.fresh {w w1 : World} {v : Value} {l : List Nat} {b : Nat} (h : RdA [] w v l) (hT : Tch [] w w1) (hb : w.heap.size ≤ b) : RdA [b] w1 v l :=
  (h.mono (Y := [b]) (fun y hy => .inr (by simp at hy; subst hy; exact hb))).tch (hT.mono (fun x hx => by simp at hx))
set_option maxHeartbeats 1000000 in
set_option maxRecDepth 100000 in
theorem Split_any (v : Value) (l : List Nat) (w : World) (hm : l.length ≤ 1000000) (hv : RdA [] w v l) :
    Calls Tryz.prog 72 #[v] w fun e w' => ∃ v', e = .returned v' ∧ Tch [] w w' ∧ RdA [] w' v' (nibs l) := by
  have hS := St.start w
  obtain ⟨_, n, c', rfl⟩ := qb3 hv
  have hlen := hv.len
  obtain ⟨N, hN⟩ : ∃ N, N = 2 * n := ⟨_, rfl⟩
  have hn2 : 2 * (n : Int) = (N : Int) := by omega
  have hn6 : N ≤ 16000000 := by omega
  have hcall := fun (b : Nat) (w1 : World) (hS : St [] w w1 [(b, 5, bc N fun _ => 0)]) =>
    split_any (some ⟨b, 0, none⟩) N N b 0 N _ l 5 _ w1 (fun _ => rfl) (by omega) (by omega) (by omega) (hv.fresh hS.frame ((hS.own .head).resolve_right (by simp))) (hS.get .head)
  have HK := hQz hcall
  have hend := nibs_length l
  have HE := hQz (show (nibs l).length = N by omega)
  have HLT := hQz (nibs_lt hv.lt)
  clear hcall hend hv hN hlen
  go_enter Tryz.func72, Tryz.ntmps72
  go_wp2_with (first
    | (refine qf7 N hS rfl _ _ rfl (by rw [← hn2]; rfl) (by rw [← hn2]; rfl) (by omega) ?_; clear hS; intro w1 b1 hS)
    | (go_at_call 106; (with_reducible refine (HK.out _ _ hS).mono ?_); rintro e w2 ⟨rfl, hT2, hB2⟩; replace hS := hS.on1 .head hT2 hB2))
  go_ret
  exact ⟨_, rfl, hS.frame, RdA.ofBlk' (hS.get .head) HE.out (fun x hx => Nat.lt_of_lt_of_le (HLT.out x hx) (by decide)) (by simp)⟩
end
end Go.Proofs.YtanmpcgackfpaaaGreat
