/- hex.Text. -/
import Derived.Test.YtjbjjiibldlipaaH6
namespace Go.Proofs.Ytjbjjiibldlipaa
open Go.RowKit

/-- 0x and the digits. -/
def txt (L : List Nat) : List UInt8 := 48 :: 120 :: hexOf L
theorem txt_length (L : List Nat) : (txt L).length = 2 + 2 * L.length := by unfold txt; rw [List.length_cons, List.length_cons, hexOf_length]; omega
theorem txt_nil : Lib.byteCells (txt []) = [] ++ Lib.strCells ⟨#[48, 120]⟩ := by rfl
theorem txt_snoc (L : List Nat) (x : Nat) : Lib.byteCells (txt (L ++ [x])) = (Lib.byteCells (txt L) ++ [.int .u8 ((hch (x / 16)).toNat : Int)]) ++ [.int .u8 ((hch (x % 16)).toNat : Int)] := by
  simp [txt, hexOf_snoc, Lib.byteCells]
theorem byteCells_length (l : List UInt8) : (Lib.byteCells l).length = l.length := by simp [Lib.byteCells]
theorem take_snoc (L : List Nat) (k : Nat) (h : k < L.length) : L.take (k + 1) = L.take k ++ [L.getD k 0] := by
  rw [List.take_succ_eq_append_getElem h]; simp [h]
theorem getD_lt {L : List Nat} (hL : ∀ x ∈ L, x < 256) (k : Nat) : L.getD k 0 < 256 := by
  by_cases h : k < L.length
  · have e : L.getD k 0 = L[k] := by simp [h]
    rw [e]; exact hL _ (List.getElem_mem h)
  · rw [List.getD_eq_getElem?_getD, List.getElem?_eq_none (by omega)]; decide
theorem digit_hi (x : Nat) (hx : x < 256) (h : x / 16 < (⟨#[48, 49, 50, 51, 52, 53, 54, 55, 56, 57, 97, 98, 99, 100, 101, 102]⟩ : ByteArray).size) : ((⟨#[48, 49, 50, 51, 52, 53, 54, 55, 56, 57, 97, 98, 99, 100, 101, 102]⟩ : ByteArray)[x / 16]'h).toNat = (hch (x / 16)).toNat := digit_at _ (by omega)
set_option maxHeartbeats 2000000 in
set_option maxRecDepth 100000 in
theorem hexText_any (v : Value) (L : List Nat) (w : World) (hm : L.length ≤ 1000000) (hv : RdB w v L) :
    Calls Try.prog 24 #[v] w fun e w' => e = .returned (.string ⟨(txt L).toArray⟩) ∧ Tch [] w w' := by
  obtain ⟨p, c, rfl, hc, hL, hcell⟩ := hv
  have HC := Lib.hid (And.intro hL hcell)
  clear hL hcell
  have hz : (zeroValue 39).run Try.prog w = .ok (.agg #[.pointer none, .slice none 0 0]) w := by kernel_rfl
  have hgrow := Try.Builder_Grow_fresh w.heap.size w.heap.size (2 + 2 * L.length) (w.alloc (.cells #[.pointer none, .slice none 0 0] 39)) (Nat.le_refl _) (Go.heap_alloc_new w _) (by simp) (by omega)
  rw [show ((2 + 2 * L.length : Nat) : Int) = 2 + 2 * (L.length : Int) by omega] at hgrow
  have hb0 : Below w.heap.size w (w.alloc (.cells #[.pointer none, .slice none 0 0] 39)) := (Below.refl _ _).alloc (Nat.le_refl _) _
  have HG := Lib.hid hgrow
  clear hgrow hz
  go_enter Try.func24, Try.ntmps24
  go_wp2_with (first | (go_at_call 35; refine HG.out.mono ?_; rintro e w1 ⟨rfl, hB1, hb1⟩; replace hb1 := hb0.trans hb1; clear hb0) | (go_at_call 14; refine (writeString_any _ _ [] _ _ hB1 (by decide) hb1.size).mono ?_; rintro e w2 ⟨rfl, hB2, hb2⟩; replace hb2 := hb1.trans hb2; clear hb1 hB1))
  rw [← txt_nil] at hB2
  go_loopw [14] (fun i wr => ∃ k : Nat, k ≤ L.length ∧ i = .int .i64 (k : Int) ∧ Bld w.heap.size w.heap.size (Lib.byteCells (txt (L.take k))) wr ∧ Below w.heap.size w wr) (fun i _ => L.length - (intOf i).toNat)
  case atStart => exact ⟨0, by omega, rfl, hB2, hb2⟩
  case round =>
    clear hB2 hb2
    obtain ⟨k, hk, rfl, hB, hb⟩ := hrel
    by_cases hlt : k < L.length
    · obtain ⟨pb, o, rfl, hpb, hcells⟩ := HC.out.2 (by intro h; rw [h] at hlt; simp at hlt)
      have hcell : wr.cell? ⟨pb, o + k, none⟩ = some (.int .u8 ((L.getD k 0 : Nat) : Int)) := (hb.cell (p := ⟨pb, o + k, none⟩) hpb).trans (hcells k hlt)
      have hx := getD_lt HC.out.1 k
      have hts := Lib.hid (take_snoc L k hlt)
      have hlen : (Lib.byteCells (txt (L.take k))).length + 2 ≤ 100000000 := by rw [byteCells_length, txt_length, List.length_take]; omega
      clear hcells
      generalize L.getD k 0 = x at *
      have h16 : x / 16 < 16 := by omega
      have h16b : x % 16 < 16 := by omega
      have hd1 := digit_at (x / 16) h16
      have hd2 := digit_at (x % 16) h16b
      have ht1 := True.intro
      go_wp2_with (first | (go_at_call 15; have _t := ht1; clear _t ht1; refine (writeByte_any _ _ _ _ _ hB (by omega) hb.size).mono ?_; rintro e w1 ⟨rfl, hB1, hb1⟩; replace hb1 := hb.trans hb1; clear hb hB) | (go_at_call 15; refine (writeByte_any _ _ _ _ _ hB1 (by rw [List.length_append, List.length_singleton]; omega) hb1.size).mono ?_; rintro e w2 ⟨rfl, hB2, hb2⟩; replace hb2 := hb1.trans hb2; clear hb1 hB1))
      rw [← txt_snoc, ← hts.out] at hB2
      go_roundw
      case rel => exact ⟨k + 1, by omega, by go_num, hB2, hb2⟩
      case measure => simp [intOf]; omega
    · obtain rfl : k = L.length := by omega
      rw [List.take_length] at hB
      have hstr := Try.Builder_String_any w.heap.size w.heap.size (txt L) wr (.inr hB) hb.size
      go_wp2_with (go_at_call 16; refine hstr.mono ?_; rintro e w1 ⟨rfl, hb1⟩)
      go_ret
      exact ⟨rfl, Tch.of_below (hb.trans hb1)⟩
end Go.Proofs.Ytjbjjiibldlipaa
