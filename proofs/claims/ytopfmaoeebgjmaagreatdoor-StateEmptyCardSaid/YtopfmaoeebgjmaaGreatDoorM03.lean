/- Items and their bytes, as plain mathematics; how many bytes a length has. -/
import Derived.Test.YtopfmaoeebgjmaaGreatDoorM01
import Derived.Test.YtopfmaoeebgjmaaGreatDoorM02
import Derived.Lib.BitFns
set_option linter.unusedVariables false
set_option linter.unusedSimpArgs false
namespace Go.Proofs.YtopfmaoeebgjmaaGreatDoor
section
open Go.RowKit
inductive It where
  | str (l : List Nat)
  | lst (l : List It)
def be (n : Nat) : List Nat := if h : n = 0 then [] else be (n / 256) ++ [n % 256]
termination_by n
decreasing_by omega
theorem be_zero : be 0 = [] := by unfold be; simp
theorem be_pos {n : Nat} (h : 0 < n) : be n = be (n / 256) ++ [n % 256] := by rw [be, dif_neg (by omega)]
theorem be_lt (n : Nat) : ∀ x ∈ be n, x < 256 := by
  induction n using Nat.strongRecOn with
  | _ n ih =>
    intro x hx
    rcases Nat.eq_zero_or_pos n with h | h
    · subst h; rw [be_zero] at hx; simp at hx
    · rw [be_pos h] at hx
      rcases List.mem_append.1 hx with hx | hx
      · exact ih _ (by omega) x hx
      · have := List.mem_singleton.1 hx; omega
theorem be_one {n : Nat} (h0 : 0 < n) (h : n < 256) : be n = [n] := by rw [be_pos h0, show n / 256 = 0 by omega, be_zero, Nat.mod_eq_of_lt h]; rfl
def lsz (n : Nat) : Nat := (be n).length
theorem lsz_one {n : Nat} (h0 : 0 < n) (h : n < 256) : lsz n = 1 := by unfold lsz; rw [be_one h0 h]; rfl
theorem lsz_step {n : Nat} (h : 0 < n) : lsz n = lsz (n / 256) + 1 := by unfold lsz; rw [be_pos h, List.length_append]; rfl
theorem lsz_two {n : Nat} (h0 : 256 ≤ n) (h : n < 65536) : lsz n = 2 := by rw [lsz_step (by omega), lsz_one (by omega) (by omega)]
theorem lsz_three {n : Nat} (h0 : 65536 ≤ n) (h : n < 16777216) : lsz n = 3 := by rw [lsz_step (by omega), lsz_two (by omega) (by omega)]
theorem lsz_four {n : Nat} (h0 : 16777216 ≤ n) (h : n < 4294967296) : lsz n = 4 := by rw [lsz_step (by omega), lsz_three (by omega) (by omega)]
theorem lsz_le {n : Nat} (h : n < 4294967296) : lsz n ≤ 4 := by
  rcases Nat.eq_zero_or_pos n with h0 | h0
  · subst h0; unfold lsz; rw [be_zero]; simp
  rcases Nat.lt_or_ge n 256 with h1 | h1
  · rw [lsz_one h0 h1]; omega
  rcases Nat.lt_or_ge n 65536 with h2 | h2
  · rw [lsz_two h1 h2]; omega
  rcases Nat.lt_or_ge n 16777216 with h3 | h3
  · rw [lsz_three h2 h3]; omega
  · rw [lsz_four h3 h]; omega
def hd (base n : Nat) : List Nat := if n ≤ 55 then [base + n] else (base + 55 + lsz n) :: be n
def hsz (n : Nat) : Nat := if n ≤ 55 then 1 else 1 + lsz n
theorem hd_length (base n : Nat) : (hd base n).length = hsz n := by
  unfold hd hsz; split
  · rfl
  · rw [List.length_cons]; unfold lsz; omega
theorem hsz_le {n : Nat} (h : n < 4294967296) : hsz n ≤ 5 := by
  have := lsz_le h
  unfold hsz; split <;> omega
theorem hsz_pos (n : Nat) : 0 < hsz n := by unfold hsz; split <;> omega
def single (l : List Nat) : Bool := match l with | [x] => decide (x < 128) | _ => false
def encS (l : List Nat) : List Nat := if single l then l else hd 128 l.length ++ l
mutual
def enc : It → List Nat
  | .str l => encS l
  | .lst l => hd 192 (encs l).length ++ encs l
def encs : List It → List Nat
  | [] => []
  | x :: r => enc x ++ encs r
end
theorem encs_append (l m : List It) : encs (l ++ m) = encs l ++ encs m := by
  induction l with
  | nil => simp [encs]
  | cons x r ih => simp [encs, ih]
theorem encs_one (x : It) : encs [x] = enc x := by simp [encs]
theorem enc_str (l : List Nat) : enc (.str l) = encS l := by rw [enc]
theorem enc_lst (l : List It) : enc (.lst l) = hd 192 (encs l).length ++ encs l := by rw [enc]
theorem encS_pos (l : List Nat) : 0 < (encS l).length := by
  unfold encS; split
  · rename_i h
    cases l with
    | nil => simp [single] at h
    | cons a r => simp
  · rw [List.length_append, hd_length]; have := hsz_pos l.length; omega
theorem enc_pos (t : It) : 0 < (enc t).length := by
  cases t with
  | str l => rw [enc_str]; exact encS_pos l
  | lst l => rw [enc_lst, List.length_append, hd_length]; have := hsz_pos (encs l).length; omega
theorem encs_len (l : List It) : l.length ≤ (encs l).length := by
  induction l with
  | nil => simp
  | cons x r ih => simp only [encs, List.length_cons, List.length_append]; have := enc_pos x; omega
mutual
def dep : It → Nat
  | .str _ => 0
  | .lst l => deps l + 1
def deps : List It → Nat
  | [] => 0
  | x :: r => max (dep x) (deps r)
end
theorem dep_str (l : List Nat) : dep (.str l) = 0 := by rw [dep]
theorem dep_lst (l : List It) : dep (.lst l) = deps l + 1 := by rw [dep]
theorem deps_mem {l : List It} {x : It} (h : x ∈ l) : dep x ≤ deps l := by
  induction l with
  | nil => simp at h
  | cons y r ih =>
    rw [deps]
    rcases List.mem_cons.1 h with rfl | h
    · omega
    · have := ih h; omega
theorem deps_append (l m : List It) : deps (l ++ m) = max (deps l) (deps m) := by
  induction l with
  | nil => simp [deps]
  | cons x r ih => simp only [List.cons_append, deps, ih]; omega
theorem bitLen_pos {n : Nat} (h : 0 < n) (h64 : n < 2 ^ 64) : 0 < Lib.bitLen n := by
  rw [Lib.bitLen_half n (by omega) h64]; omega
theorem lsz_bits {n : Nat} (h0 : 0 < n) (hn : n < 4294967296) : (Lib.bitLen n + 7) / 8 = lsz n := by
  rcases Nat.lt_or_ge n 256 with h1 | h1
  · rw [lsz_one h0 h1]
    have := Lib.bitLen_le n 8 (by omega) (by omega)
    have := bitLen_pos h0 (by omega)
    omega
  rcases Nat.lt_or_ge n 65536 with h2 | h2
  · rw [lsz_two h1 h2, Lib.bitLen_shift8 n h1 (by omega)]
    have := Lib.bitLen_le (n / 256) 8 (by omega) (by omega)
    have := bitLen_pos (n := n / 256) (by omega) (by omega)
    omega
  rcases Nat.lt_or_ge n 16777216 with h3 | h3
  · rw [lsz_three h2 h3, Lib.bitLen_shift16 n h2 (by omega)]
    have := Lib.bitLen_le (n / 65536) 8 (by omega) (by omega)
    have := bitLen_pos (n := n / 65536) (by omega) (by omega)
    omega
  · rw [lsz_four h3 hn, Lib.bitLen_shift24 n h3 (by omega)]
    have := Lib.bitLen_le (n / 16777216) 8 (by omega) (by omega)
    have := bitLen_pos (n := n / 16777216) (by omega) (by omega)
    omega
theorem tab_get : ∀ i : Fin 256, ∀ h, (Lib.len8tab[i.val]'h).toNat = Lib.bitLen i.val := by decide +kernel
theorem tab_getn (i : Nat) (h : i < Lib.len8tab.size) : (Lib.len8tab[i]'h).toNat = Lib.bitLen i := tab_get ⟨i, by rw [Lib.len8tab_size] at h; exact h⟩ h
set_option maxHeartbeats 4000000 in
set_option maxRecDepth 100000 in
theorem len64_int (x : Int) (w : World) (h0 : 0 ≤ x) (h1 : x ≤ 4294967295) :
    Calls Tryz.prog 64 #[.int .u64 x] w fun e w' => e = .returned (.int .i64 ((Lib.bitLen x.toNat : Nat) : Int)) ∧ w = w' := by
  have hsz := Lib.len8tab_size
  go_enter Tryz.func64, Tryz.ntmps64
  go_wp2
  all_goals (go_ret; refine ⟨congrArg Ending.returned (congrArg (Value.int IntKind.i64) ?_), rfl⟩; simp only [tab_getn])
  all_goals first
    | (have e : (x / 65536 / 256).toNat = x.toNat / 16777216 := by omega
       have l := Lib.bitLen_le (x.toNat / 16777216) 8 (by omega) (by omega)
       simp only [e]
       have s := Lib.bitLen_shift24 x.toNat (by omega) (by omega)
       generalize Lib.bitLen (x.toNat / 16777216) = z at *
       rw [s, IntWalk.wrap64_in (z : Int) (by omega), IntWalk.wrap64_in _ (by omega)]
       omega)
    | (have e : (x / 65536).toNat = x.toNat / 65536 := by omega
       have l := Lib.bitLen_le (x.toNat / 65536) 8 (by omega) (by omega)
       simp only [e]
       have s := Lib.bitLen_shift16 x.toNat (by omega) (by omega)
       generalize Lib.bitLen (x.toNat / 65536) = z at *
       rw [s, IntWalk.wrap64_in (z : Int) (by omega), IntWalk.wrap64_in _ (by omega)]
       omega)
    | (have e : (x / 256).toNat = x.toNat / 256 := by omega
       have l := Lib.bitLen_le (x.toNat / 256) 8 (by omega) (by omega)
       simp only [e]
       have s := Lib.bitLen_shift8 x.toNat (by omega) (by omega)
       generalize Lib.bitLen (x.toNat / 256) = z at *
       rw [s, IntWalk.wrap64_in (z : Int) (by omega), IntWalk.wrap64_in _ (by omega)]
       omega)
    | (have l := Lib.bitLen_le x.toNat 8 (by omega) (by omega)
       generalize Lib.bitLen x.toNat = z at *
       first
         | (rw [IntWalk.wrap64_in (z : Int) (by omega), IntWalk.wrap64_in _ (by omega)]; omega)
         | (rw [IntWalk.wrap64_in (z : Int) (by omega), IntWalk.wrap64_in (z : Int) (by omega)]; done)
         | (simp only [IntWalk.wrap64_in (z : Int) (by omega)]; done))
set_option maxHeartbeats 1000000 in
theorem len_any (x : Nat) (w : World) (h1 : x < 4294967296) :
    Calls Tryz.prog 41 #[.int .u64 (x : Int)] w fun e w' => e = .returned (.int .i64 ((Lib.bitLen x : Nat) : Int)) ∧ w = w' := by
  have hl := len64_int (x : Int) w (by omega) (by omega)
  rw [Int.toNat_natCast] at hl
  go_enter Tryz.func41, Tryz.ntmps41
  go_wp2_with (go_at_call 64; refine hl.mono ?_; rintro e w' ⟨rfl, rfl⟩)
  go_ret
  exact ⟨rfl, rfl⟩
set_option maxHeartbeats 1000000 in
theorem lengthSize_any (n : Nat) (w : World) (h0 : 0 < n) (h1 : n < 4294967296) :
    Calls Tryz.prog 144 #[.int .i64 (n : Int)] w fun e w' => e = .returned (.int .i64 ((lsz n : Nat) : Int)) ∧ w = w' := by
  have hl := len_any n w h1
  have hb := Lib.bitLen_le n 32 (by omega) (by omega)
  have hz := hQz (lsz_bits h0 h1)
  generalize Lib.bitLen n = L at *
  go_enter Tryz.func144, Tryz.ntmps144
  go_wp2_with (go_at_call 41; refine hl.mono ?_; rintro e w' ⟨rfl, rfl⟩)
  go_ret
  refine ⟨ret_int ?_, rfl⟩
  have := hz.out
  omega
set_option maxHeartbeats 1000000 in
theorem headSize_any (n : Nat) (w : World) (h1 : n < 4294967296) :
    Calls Tryz.prog 128 #[.int .i64 (n : Int)] w fun e w' => e = .returned (.int .i64 ((hsz n : Nat) : Int)) ∧ w = w' := by
  by_cases h : n ≤ 55
  · have hz := hQz (show hsz n = 1 by unfold hsz; rw [if_pos h])
    go_enter Tryz.func128, Tryz.ntmps128
    go_wp2_with (fail)
    go_ret
    refine ⟨ret_int ?_, rfl⟩
    rw [hz.out]; rfl
  · have hz := hQz (show hsz n = 1 + lsz n by unfold hsz; rw [if_neg h])
    have hl := lengthSize_any n w (by omega) h1
    have h4 := lsz_le h1
    generalize lsz n = L at *
    go_enter Tryz.func128, Tryz.ntmps128
    go_wp2_with (go_at_call 144; refine hl.mono ?_; rintro e w' ⟨rfl, rfl⟩)
    go_ret
    refine ⟨ret_int ?_, rfl⟩
    rw [hz.out]; omega
end
section
open Go.RowKit
theorem int_size : (Tryz.prog.info? 3).map (·.size) = some 1 := by kernel_rfl
def gro (r : Int) : Array Value := #[.int .i64 r]
set_option maxHeartbeats 1000000 in
set_option maxRecDepth 100000 in
theorem spend_any (g : Nat) (r : Int) (n : Nat) (t : TypeId) (w : World) (hr : -100000000 ≤ r ∧ r ≤ 100000000) (hn : n ≤ 100000000) (hB : Blk w g t (gro r)) :
    Calls Tryz.prog 127 #[.pointer (some ⟨g, 0, none⟩), .int .i64 (n : Int)] w fun e w' => e = .returned (.bool (decide (0 ≤ r - n))) ∧ Tch [g] w w' ∧ Blk w' g t (gro (r - n)) := by
  have hc := hB.cell (j := 0) (v := .int .i64 r) rfl
  have hf := hB.free 0
  have hset := hB.set 0 (.int .i64 (r - n))
  have HB := hQz hset
  clear hB hset
  go_enter Tryz.func127, Tryz.ntmps127
  go_wp2
  go_ret
  refine ⟨ret_bool ?_, (Tch.refl _ _).only (Only.setCell w ⟨g, 0, none⟩ _) (.inr (by simp)), HB.out⟩
  exact decide_eq_decide.2 (by omega)
set_option maxHeartbeats 1000000 in
set_option maxRecDepth 100000 in
theorem putByte_any (b n n0 x : Nat) (t : TypeId) (f : Nat → Nat) (w : World) (hn : 0 < n) (hn0 : n ≤ n0) (hm : n0 ≤ 100000000) (hx : x < 256) (hB : Blk w b t (bc n0 f)) :
    Calls Tryz.prog 129 #[.slice (some ⟨b, 0, none⟩) n n0, .int .u8 (x : Int)] w fun e w' => e = .returned (.slice (some ⟨b, 0, none⟩) (n - 1) n0) ∧ Tch [b] w w' ∧ Blk w' b t (bc n0 (wr f (n - 1) [x])) := by
  obtain ⟨m, rfl⟩ : ∃ m, n = m + 1 := ⟨n - 1, by omega⟩
  rw [Nat.add_sub_cancel]
  have hc := hB.cell (j := m) (bc_get (by omega))
  have hf := hB.free m
  have hset := hB.set m (.int .u8 x)
  rw [bc_set (by omega), ← wr_one] at hset
  have HB := hQz hset
  clear hB hset
  go_enter Tryz.func129, Tryz.ntmps129
  go_wp2
  go_ret
  exact ⟨rfl, (Tch.refl _ _).only (Only.setCell w ⟨b, m, none⟩ _) (.inr (by simp)), HB.out⟩
def PutPost (b n n0 : Nat) (t : TypeId) (f : Nat → Nat) (w : World) (l : List Nat) (e : Ending) (w' : World) : Prop :=
  e = .returned (.slice (some ⟨b, 0, none⟩) (n - l.length) n0) ∧ Tch [b] w w' ∧ Blk w' b t (bc n0 (wr f (n - l.length) l))
theorem putpost_cons {b n n0 x : Nat} {t : TypeId} {f : Nat → Nat} {w w1 w2 : World} {l : List Nat} {e : Ending} (hl : l.length < n) (hT : Tch [b] w w1)
    (h : e = .returned (.slice (some ⟨b, 0, none⟩) (n - l.length - 1) n0) ∧ Tch [b] w1 w2 ∧ Blk w2 b t (bc n0 (wr (wr f (n - l.length) l) (n - l.length - 1) [x]))) : PutPost b n n0 t f w (x :: l) e w2 := by
  have e1 : n - (x :: l).length = n - l.length - 1 := by simp; omega
  refine ⟨by rw [e1]; exact h.1, hT.trans h.2.1, ?_⟩
  have := wr_wr f (n - l.length - 1) [x] l
  rw [show n - l.length - 1 + [x].length = n - l.length by simp; omega] at this
  rw [e1]
  have h3 := h.2.2
  rw [this] at h3
  exact h3
set_option maxHeartbeats 1000000 in
set_option maxRecDepth 100000 in
theorem putHead_any (b n n0 k m : Nat) (t : TypeId) (f : Nat → Nat) (w : World) (hn : hsz m ≤ n) (hn0 : n ≤ n0) (hm : n0 ≤ 100000000) (hmm : m ≤ 100000000) (hk : k ≤ 192) (hB : Blk w b t (bc n0 f)) :
    Calls Tryz.prog 130 #[.slice (some ⟨b, 0, none⟩) n n0, .int .u8 (k : Int), .int .i64 (m : Int)] w (PutPost b n n0 t f w (hd k m)) := by
  have h1 := hsz_pos m
  by_cases h : m ≤ 55
  · have hx : ((k : Int) + (m : Int)) = ((k + m : Nat) : Int) := by omega
    have hp := (putByte_any b n n0 (k + m) t f w (by omega) hn0 hm (by omega) hB).mono (R' := PutPost b n n0 t f w (hd k m)) (fun e w' h2 => by
      have : hd k m = [k + m] := by unfold hd; rw [if_pos h]
      rw [this]
      exact ⟨h2.1, h2.2.1, h2.2.2⟩)
    rw [← hx] at hp
    have HP := hQz hp
    clear hp hB hn hn0 hm h1 hx
    go_enter Tryz.func130, Tryz.ntmps130
    go_wp2_with (go_at_call 129; refine HP.out.mono ?_; rintro e w' ⟨rfl, h2⟩)
    go_ret
    exact ⟨rfl, h2⟩
  · have hz : hsz m = 1 + lsz m := by unfold hsz; rw [if_neg h]
    have hl := lengthSize_any m w (by omega) (by omega)
    have h4 := lsz_le (n := m) (by omega)
    have hhd : hd k m = (k + 55 + lsz m) :: be m := by unfold hd; rw [if_neg h]
    have hbl : (be m).length = lsz m := rfl
    have hpos : ∀ (L : Nat) (w1 : World), L = n - lsz m → Tch [b] w w1 → Blk w1 b t (bc n0 (wr f L (be m))) → Calls Tryz.prog 129 #[.slice (some ⟨b, 0, none⟩) L n0, .int .u8 ((k : Int) + 55 + (lsz m : Int))] w1 (PutPost b n n0 t f w (hd k m)) := fun L w1 hL hT hB1 => by
      have := putByte_any b L n0 (k + 55 + lsz m) t _ w1 (by omega) (by omega) hm (by omega) hB1
      rw [show (((k + 55 + lsz m : Nat) : Nat) : Int) = (k : Int) + 55 + (lsz m : Int) by omega] at this
      refine this.mono fun e w' h2 => ?_
      rw [hhd]
      refine putpost_cons (by omega) hT ?_
      rw [hbl, ← hL]; exact h2
    have hstep : ∀ (q L : Nat) (w1 : World) (tl : List Nat), 0 < q → be m = be q ++ tl → L = n - tl.length → Tch [b] w w1 → Blk w1 b t (bc n0 (wr f L tl)) → Calls Tryz.prog 129 #[.slice (some ⟨b, 0, none⟩) L n0, .int .u8 ((q : Int) % 256)] w1 (fun e w' => e = .returned (.slice (some ⟨b, 0, none⟩) (L - 1) n0) ∧ ∃ tl, Hid (be m = be (q / 256) ++ tl) ∧ Hid (L - 1 = n - tl.length) ∧ Tch [b] w w' ∧ Blk w' b t (bc n0 (wr f (L - 1) tl))) := fun q L w1 tl hq hbe hL hT hB1 => by
      have hlen := congrArg List.length hbe
      rw [List.length_append, be_pos hq, List.length_append] at hlen
      simp only [List.length_singleton, hbl] at hlen
      have := putByte_any b L n0 (q % 256) t _ w1 (by omega) (by omega) hm (by omega) hB1
      rw [show ((q % 256 : Nat) : Int) = (q : Int) % 256 by omega] at this
      refine this.mono fun e w' h2 => ⟨h2.1, (q % 256) :: tl, hQz (by rw [hbe, be_pos hq]; simp), hQz (by simp; omega), hT.trans h2.2.1, ?_⟩
      have e3 := wr_wr f (L - 1) [q % 256] tl
      rw [show L - 1 + [q % 256].length = L by simp; omega] at e3
      have h3 := h2.2.2
      rw [e3] at h3
      exact h3
    have HP := hQz hpos
    have HS := hQz hstep
    have h0 : Tch [b] w w ∧ Blk w b t (bc n0 (wr f n [])) := ⟨Tch.refl _ _, by rw [wr_nil]; exact hB⟩
    have H0 := hQz h0
    clear hpos hstep hhd hbl h0 hB
    have HZ := hQz (And.intro hz hn)
    clear hz hn
    have hm55 : ¬ ((m : Int) ≤ 55) := by omega
    generalize hsv : lsz m = s at *
    go_enter Tryz.func130, Tryz.ntmps130
    go_wp2_with (go_at_call 144; refine hl.mono ?_; rintro e w' ⟨rfl, rfl⟩)
    clear hl
    go_loopw [0, 2] (fun sv qv wr' => ∃ (q L : Nat) (tl : List Nat), q ≤ m ∧ Hid (be m = be q ++ tl) ∧ Hid (L = n - tl.length) ∧ L ≤ n ∧ sv = .slice (some ⟨b, 0, none⟩) L n0 ∧ qv = .int .i64 (q : Int) ∧ Hid (Tch [b] w wr' ∧ Blk wr' b t (bc n0 (wr f L tl)))) (fun _ qv _ => (intOf qv).toNat)
    case atStart => exact ⟨m, n, [], Nat.le_refl _, hQz (by simp), hQz (by simp), Nat.le_refl _, rfl, rfl, H0⟩
    case round =>
      obtain ⟨q, L, tl, hq, hbe, hL, hLn, rfl, rfl, hW⟩ := hrel
      by_cases hq0 : 0 < q
      · have hc := HS.out q L _ tl hq0 hbe.out hL.out hW.out.1 hW.out.2
        have HC := hQz hc
        clear hc
        go_wp2_with (go_at_call 129; refine HC.out.mono ?_; rintro e w' ⟨rfl, tl2, h21, h22, h23, h24⟩)
        go_roundw
        case rel => exact ⟨q / 256, L - 1, tl2, by omega, h21, h22, by omega, rfl, by go_num, hQz ⟨h23, h24⟩⟩
        case measure => simp [intOf]; omega
      · obtain rfl : q = 0 := by omega
        have htl : tl = be m := by have := hbe.out; rw [be_zero, List.nil_append] at this; exact this.symm
        have hc := HP.out L _ (by rw [hL.out, htl, ← hsv]; rfl) hW.out.1 (by rw [← htl]; exact hW.out.2)
        have HC := hQz hc
        clear hc
        go_wp2_with (go_at_call 129; refine HC.out.mono ?_; rintro e w' ⟨rfl, h2⟩)
        go_ret
        exact ⟨rfl, h2⟩
end
section
open Go.RowKit
def lay (c : Array Value) (A : Nat → Nat) : Array Value := ((List.range c.size).map fun i => if i < 25 then Value.int .u64 ((A i : Nat) : Int) else c.getD i undef).toArray
theorem lay_size (c : Array Value) (A : Nat → Nat) : (lay c A).size = c.size := by simp [lay]
theorem lay_get {c : Array Value} {A : Nat → Nat} {i : Nat} (h : i < 25) (hc : 25 ≤ c.size) : (lay c A)[i]? = some (.int .u64 ((A i : Nat) : Int)) := by
  have : i < c.size := by omega
  simp [lay, this, h]
theorem lay_far {c : Array Value} {A : Nat → Nat} {i : Nat} (h : 25 ≤ i) : (lay c A)[i]? = c[i]? := by
  have h2 : ¬ i < 25 := by omega
  by_cases hi : i < c.size
  · simp [lay, hi, h2]
  · rw [Array.getElem?_eq_none (by rw [lay_size]; omega), Array.getElem?_eq_none (by omega)]
theorem lay_set {c : Array Value} {A : Nat → Nat} {j v : Nat} (h : j < 25) (hc : 25 ≤ c.size) : (lay c A).setIfInBounds j (.int .u64 (v : Int)) = lay c (fun i => if i = j then v else A i) := by
  apply Array.ext_getElem?
  intro i
  rw [Array.getElem?_setIfInBounds]
  by_cases hi : i < 25
  · by_cases hj : j = i
    · subst hj; rw [if_pos rfl, if_pos (by rw [lay_size]; omega), lay_get hi hc, if_pos rfl]
    · rw [if_neg hj, lay_get hi hc, lay_get hi hc, if_neg (fun e => hj e.symm)]
  · rw [if_neg (show ¬ j = i by omega), lay_far (by omega), lay_far (by omega)]
theorem lay_congr {c : Array Value} {A B : Nat → Nat} (h : ∀ i, i < 25 → A i = B i) : lay c A = lay c B := by
  unfold lay
  congr 1
  apply List.map_congr_left
  intro i _
  by_cases hi : i < 25
  · rw [if_pos hi, if_pos hi, h i hi]
  · rw [if_neg hi, if_neg hi]
theorem Tch.less {a b : Nat} {t : TypeId} {c : Array Value} {w w' : World} (h : Tch [b, a] w w') (h1 : Blk w a t c) (h2 : Blk w' a t c) : Tch [b] w w' :=
  ⟨h.os, h.tape, h.output, h.size, fun k hk hkb => by
    by_cases e : k = a
    · subst e; rw [show w.heap[k]? = _ from h1, show w'.heap[k]? = _ from h2]
    · exact h.block k hk (by simp at hkb ⊢; exact ⟨hkb, e⟩)⟩
theorem u64_size : (Tryz.prog.info? 113).map (·.size) = some 1 := by kernel_rfl
theorem lanes_type : Tryz.prog.underlying 171 = some (.array 25 113) := by kernel_rfl
theorem lanes2_type : Tryz.prog.underlying 114 = some (.array 25 113) := by kernel_rfl
theorem nums_type : Tryz.prog.underlying 258 = some (.array 24 113) := by kernel_rfl
theorem word_type : Tryz.prog.underlying 25 = some (.array 32 5) := by kernel_rfl
theorem word_size : (Tryz.prog.info? 25).map (·.size) = some 32 := by kernel_rfl
theorem nums_size : (Tryz.prog.info? 258).map (·.size) = some 24 := by kernel_rfl
theorem u64_agg (w : World) : (isAgg 113).run Tryz.prog w = .ok false w := by
  have hu : Tryz.prog.underlying 113 = some (.int .u64) := by kernel_rfl
  simp [isAgg, run_underlying hu]
theorem int_agg (w : World) : (isAgg 3).run Tryz.prog w = .ok false w := by
  have hu : Tryz.prog.underlying 3 = some (.int .i64) := by kernel_rfl
  simp [isAgg, run_underlying hu]
section
variable {ops : Array Oper} {o : Oper} {a : Act} {S : World → Prop} {b : Nat} {rest : List Oper} {C : World → Prop} {Qa : Act → Prop}
theorem k_nil (p : Addr) (hw : Region.wanted o (yielded ops a.tmps) = true) (x : Operand) (ho : o.op = .nilCheck x) (hx : a.eval x = .pointer (some p))
    (h : KQ ops C Qa rest (a.put o.dst (.pointer (some p)))) : KQ ops C Qa (o :: rest) a := k_pure hw (fun w => by unfold execOp; simp only [ho, hx]; rfl) h
theorem k_ptr (p : Addr) (hw : Region.wanted o (yielded ops a.tmps) = true) (xo : Operand) (ho : o.op = .move xo) (hx : a.eval xo = .pointer (some p))
    (h : KQ ops C Qa rest (a.put o.dst (.pointer (some p)))) : KQ ops C Qa (o :: rest) a := k_val hw xo (.inl ho) hx h
theorem x_idx {n e j : Nat} (ty : TypeId) (x y : Operand) (ho : o.op = .indexAddr ty x y) (hx : a.eval x = .pointer (some ⟨b, 0, none⟩)) (hy : a.eval y = .int .i64 (j : Int)) (hu : Tryz.prog.underlying ty = some (.array n e)) (he : (Tryz.prog.info? e).map (·.size) = some 1) (hj : j < n) (w : World) :
    (execOp a.eval o).run Tryz.prog w = .ok (.value (.pointer (some ⟨b, j, none⟩))) w := by
  have hadd : (⟨b, 0, none⟩ : Addr).add j = ⟨b, j, none⟩ := by unfold Addr.add; split <;> simp_all
  unfold execOp
  simp [ho, hx, hy, Instr.indexAt, run_underlying hu, Instr.sureAddr, asIntOf, sizeOf_one he, hj, hadd]
theorem k_idx {n e : Nat} (j : Nat) (hw : Region.wanted o (yielded ops a.tmps) = true) (ty : TypeId) (x y : Operand) (ho : o.op = .indexAddr ty x y) (hx : a.eval x = .pointer (some ⟨b, 0, none⟩)) (hy : a.eval y = .int .i64 (j : Int)) (hu : Tryz.prog.underlying ty = some (.array n e)) (he : (Tryz.prog.info? e).map (·.size) = some 1) (hj : j < n)
    (h : KQ ops C Qa rest (a.put o.dst (.pointer (some ⟨b, j, none⟩)))) : KQ ops C Qa (o :: rest) a := k_pure hw (x_idx ty x y ho hx hy hu he hj) h
theorem k_xor {m n s : Nat} (hw : Region.wanted o (yielded ops a.tmps) = true) (ty yt : TypeId) (x y : Operand) (ho : o.op = .binOp .xor ty x y yt) (hx : a.eval x = .int .u64 (m : Int)) (hy : a.eval y = .int .u64 (n : Int)) (he : m ^^^ n = s) (hm : m < 18446744073709551616) (hn : n < 18446744073709551616)
    (h : KQ ops C Qa rest (a.put o.dst (.int .u64 (s : Int)))) : KQ ops C Qa (o :: rest) a :=
  k_pure hw (fun w => by unfold execOp; simp only [ho, hx, hy]; show Sem.run _ _ w = _; rw [← he, ← u64_xor_nat m n hm hn]; simp [eqGuard, binOp, Op.intBits]; rfl) h
theorem k_calls {bs : List Nat} {w0 : World} {L : List Ent} {v : Value} {f : FuncId} {ts : Array TypeId} {xs : Array Operand} {args : Array Value} (hw : Region.wanted o (yielded ops a.tmps) = true) (ho : o.op = .call { callee := .value (.func f), args := xs, argTypes := ts }) (ha : xs.map a.eval = args)
    (hc : (∀ args w, (callFunc f args).run Tryz.prog w = .ok (.enter f args) w) ∧ ∀ w, Calls Tryz.prog f args w fun e w' => e = .returned v ∧ w = w')
    (h : KQ ops (fun w' => St bs w0 w' L) Qa rest (a.put o.dst v)) : KQ ops (fun w' => St bs w0 w' L) Qa (o :: rest) a :=
  k_call hw ho ha ⟨hc.1, fun w => (hc.2 w).mono fun e w' ⟨h1, h2⟩ => ⟨h1, by subst h2; exact Tch.refl _ _⟩⟩ h
end
end
end Go.Proofs.YtopfmaoeebgjmaaGreatDoor
