/- Paths: half bytes of bytes and back; path.split, the document's Split. -/
import Derived.Test.YthchmnhoombecaaGreatB1
namespace Go.Proofs.YthchmnhoombecaaGreat
open Go.RowKit

/-- Half bytes, the high one first. -/
def nibs (l : List Nat) : List Nat := l.flatMap fun x => [x / 16, x % 16]
theorem nibs_nil : nibs [] = [] := rfl
theorem nibs_cons (x : Nat) (l : List Nat) : nibs (x :: l) = x / 16 :: x % 16 :: nibs l := rfl
theorem nibs_append (l m : List Nat) : nibs (l ++ m) = nibs l ++ nibs m := by simp [nibs]
theorem nibs_length : ∀ l : List Nat, (nibs l).length = 2 * l.length
  | [] => rfl
  | x :: l => by rw [nibs_cons]; simp only [List.length_cons, nibs_length l]; omega
theorem nibs_lt {l : List Nat} (h : ∀ x ∈ l, x < 256) : ∀ y ∈ nibs l, y < 16 := by
  intro y hy
  obtain ⟨x, hx, hy⟩ := List.mem_flatMap.1 hy
  have := h x hx
  simp only [List.mem_cons, List.not_mem_nil, or_false] at hy
  omega
theorem take_snoc {l : List Nat} {k : Nat} (h : k < l.length) : l.take (k + 1) = l.take k ++ [l.getD k 0] := by
  rw [List.take_succ_eq_append_getElem h]; simp [h]
theorem nibs_step {l : List Nat} {k : Nat} (h : k < l.length) : nibs (l.take (k + 1)) = (nibs (l.take k) ++ [l.getD k 0 / 16]) ++ [l.getD k 0 % 16] := by
  rw [take_snoc h, nibs_append, List.append_assoc]; rfl
theorem nibs_take_len {l : List Nat} {k : Nat} (h : k ≤ l.length) : (nibs (l.take k)).length = 2 * k := by
  rw [nibs_length, List.length_take, Nat.min_eq_left h]
theorem wr_snoc {n0 : Nat} {f : Nat → Nat} {o x : Nat} {m : List Nat} (h : o + m.length < n0) : (bc n0 (wr f o m)).setIfInBounds (o + m.length) (.int .u8 (x : Int)) = bc n0 (wr f o (m ++ [x])) := by
  rw [bc_set h]
  refine bc_congr fun i _ => ?_
  unfold wr
  rw [List.length_append, List.length_singleton]
  by_cases h1 : i = o + m.length
  · subst h1
    rw [if_pos rfl, if_pos (by omega), List.getD_eq_getElem?_getD, List.getElem?_append_right (by omega)]
    simp
  · rw [if_neg h1]
    by_cases h2 : o ≤ i ∧ i < o + m.length
    · rw [if_pos h2, if_pos (by omega), List.getD_eq_getElem?_getD, List.getD_eq_getElem?_getD, List.getElem?_append_left (by omega)]
    · rw [if_neg h2, if_neg (by omega)]
theorem shr4 (x : Nat) : (x : Int) / 16 = ((x / 16 : Nat) : Int) := by omega
theorem and15 (x : Nat) (h : x < 256) : bits BinOp.and IntKind.u8 (x : Int) 15 = ((x % 16 : Nat) : Int) := by
  have all : ∀ a : Fin 256, bits BinOp.and IntKind.u8 (a.val : Int) 15 = ((a.val % 16 : Nat) : Int) := by decide +kernel
  exact all ⟨x, h⟩
set_option maxHeartbeats 1000000 in
set_option maxRecDepth 100000 in
theorem split_any (pp : Option Addr) (n c bp op n0 : Nat) (v : Value) (l : List Nat) (t : TypeId) (f : Nat → Nat) (w : World) (hp : l ≠ [] → pp = some ⟨bp, op, none⟩) (hn : 2 * l.length ≤ n) (hn0 : op + 2 * l.length ≤ n0) (hm : l.length ≤ 100000000) (hv : RdA [bp] w v l) (hB : Blk w bp t (bc n0 f)) :
    Calls Tryz.prog 47 #[.slice pp n c, v] w fun e w' => e = .returned (.tuple #[]) ∧ Tch [bp] w w' ∧ Blk w' bp t (bc n0 (wr f op (nibs l))) := by
  have hS := St.one hB
  obtain ⟨p', n', c', rfl⟩ := slice_keep hv
  have hlen := hv.len
  obtain ⟨_, _, hq, hcap, hb, hc⟩ := id hv
  cases hq
  clear hlen
  have HP := Lib.hid hp
  have HC := Lib.hid hc
  have HB := Lib.hid hb
  clear hp hc hb hv hB
  go_enter Tryz.func47, Tryz.ntmps47
  go_wp2
  go_loopw [8] (fun i wr' => ∃ k : Nat, k ≤ l.length ∧ i = .int .i64 (k : Int) ∧ St [bp] w wr' [(bp, t, bc n0 (wr f op (nibs (l.take k))))]) (fun i _ => l.length - (intOf i).toNat)
  case atStart => exact ⟨0, Nat.zero_le _, rfl, by simpa [nibs, wr_nil] using hS⟩
  case round =>
    clear hS
    obtain ⟨k, hk, rfl, hS⟩ := hrel
    by_cases hlt : k < l.length
    · have hne : l ≠ [] := by intro e; subst e; simp at hlt
      obtain rfl := HP.out hne
      obtain ⟨b, o, rfl, hbw, hbX, hc⟩ := HC.out hne
      have hx := HB.out (l.getD k 0) (by rw [List.getD_eq_getElem?_getD, List.getElem?_eq_getElem hlt]; exact List.getElem_mem hlt)
      have hck := (hS.frame.cell (p := ⟨b, o + k, none⟩) hbw hbX).trans (hc k hlt)
      obtain ⟨x, hxx⟩ : ∃ x, x = l.getD k 0 := ⟨_, rfl⟩
      rw [← hxx] at hck hx
      have hst := nibs_step hlt
      rw [← hxx] at hst
      have HST := Lib.hid hst
      have HL := Lib.hid (nibs_take_len hk)
      have h16 := and15 x hx
      have H4 := Lib.hid (shr4 x)
      have hw1 : IntKind.i64.wrap (2 * (k : Int)) = 2 * (k : Int) := by rw [IntKind.wrap_i64]; omega
      have HS0 := Lib.hid (And.intro hn hn0)
      have HXX := Lib.hid hxx
      clear hc hxx hst
      go_wp2_with (first
        | (refine st_store1 (b := bp) (j := op + 2 * k) hS rfl 5 _ _ rfl (by rfl) rfl u8_size (by repeat (first | exact Upd.head | apply Upd.tail)) (by rw [bc_size]; omega) ?_; clear hS; intro w5 hS)
        | (refine st_store1 (b := bp) (j := op + (2 * k + 1)) hS rfl 5 _ _ rfl (by rfl) rfl u8_size (by repeat (first | exact Upd.head | apply Upd.tail)) (by rw [Array.size_setIfInBounds, bc_size]; omega) ?_; clear hS; intro w6 hS))
      go_roundw
      case rel =>
        refine ⟨k + 1, hlt, by go_num, ?_⟩
        rw [HST.out, ← wr_snoc (by rw [List.length_append, HL.out]; simp; omega), ← wr_snoc (by rw [HL.out]; omega), List.length_append, HL.out]
        rw [← H4.out]
        exact hS
      case measure => simp [intOf]; omega
    · obtain rfl : k = l.length := by omega
      go_wp2
      go_end0
      refine ⟨rfl, hS.frame, ?_⟩
      have := hS.get .head
      rwa [List.take_length] at this
end Go.Proofs.YthchmnhoombecaaGreat
