/- Single digits and beginnings of texts: hex.value, hex.shortest, the document's digit, CutPrefix. -/
import Derived.Test.YtjbjjiibldlipaaH0
import Derived.Test.YtjbjjiibldlipaaG1
import Derived.ShutString
namespace Go.Proofs.Ytjbjjiibldlipaa
open Go.RowKit

theorem ret2_int {k : IntKind} {a b : Int} {v : Value} (h : a = b) : Ending.returned (.tuple #[.int k a, v]) = .returned (.tuple #[.int k b, v]) := by rw [h]
theorem value_yes (c v : Nat) (w : World) (hv0 : hv c = some v) :
    Calls Try.prog 46 #[.int .i32 (c : Int)] w fun e w' => e = .returned (.tuple #[.int .u8 (v : Int), .bool true]) ∧ w = w' := by
  unfold hv at hv0
  split at hv0
  · obtain rfl := Option.some.inj hv0
    obtain ⟨m, rfl⟩ : ∃ m, c = 48 + m := ⟨c - 48, by omega⟩
    have hm : m < 10 := by omega
    clear hv0
    have e1 : 48 + m - 48 = m := by omega
    rw [e1]
    go_enter Try.func46, Try.ntmps46
    go_wp2
    go_ret2
    exact ⟨ret2_int (by omega), rfl⟩
  · split at hv0
    · obtain rfl := Option.some.inj hv0
      obtain ⟨m, rfl⟩ : ∃ m, c = 97 + m := ⟨c - 97, by omega⟩
      have hm : m < 6 := by omega
      clear hv0
      have e1 : 97 + m - 87 = 10 + m := by omega
      rw [e1]
      go_enter Try.func46, Try.ntmps46
      go_wp2
      go_ret2
      exact ⟨ret2_int (by omega), rfl⟩
    · simp at hv0
theorem value_no (c : Nat) (w : World) (hc : c ≤ 2147483647) (hv0 : hv c = none) :
    Calls Try.prog 46 #[.int .i32 (c : Int)] w fun e w' => e = .returned (.tuple #[.int .u8 0, .bool false]) ∧ w = w' := by
  unfold hv at hv0
  have h1 : ¬ (48 ≤ c ∧ c ≤ 57) := by intro h; rw [if_pos h] at hv0; simp at hv0
  have h2 : ¬ (97 ≤ c ∧ c ≤ 102) := by intro h; rw [if_neg h1, if_pos h] at hv0; simp at hv0
  clear hv0
  go_enter Try.func46, Try.ntmps46
  go_wp2
  all_goals go_ret2
  all_goals exact ⟨rfl, rfl⟩
/-- Does a text begin with 0x? -/
def px (s : ByteArray) : Bool := s.data.toList.take 2 == [48, 120]
theorem px_le {s : ByteArray} (h : px s = true) : 2 ≤ s.size := by
  have h1 := congrArg List.length (beq_iff_eq.1 h)
  have h2 : s.data.toList.length = s.size := by simp
  rw [List.length_take, h2] at h1
  simp at h1
  omega
theorem px_extract (s : ByteArray) : ((s.extract 0 2).toList == [48, 120]) = px s := by
  rw [ByteArray.toList_eq, ByteArray.data_extract]; simp [px]
theorem prefix_any (s : ByteArray) (w : World) (hm : s.size ≤ maxLen) :
    Calls Try.prog 52 #[.string s, .string ⟨#[48, 120]⟩] w fun e w' => e = .returned (.bool (px s)) ∧ w = w' := by
  unfold maxLen at hm
  have HP := Lib.hid (px_extract s)
  by_cases hs : 2 ≤ s.size
  · go_enter Try.func52, Try.ntmps52
    go_wp2
    go_ret
    exact ⟨congrArg (fun b => Ending.returned (.bool b)) HP.out, rfl⟩
  · have hf : px s = false := by
      cases h : px s with
      | false => rfl
      | true => exact absurd (px_le h) hs
    rw [hf]
    clear HP
    go_enter Try.func52, Try.ntmps52
    go_wp2
    go_ret
    exact ⟨rfl, rfl⟩
theorem cut0_any (s : ByteArray) (w : World) (hm : s.size ≤ maxLen) :
    Calls Try.prog 45 #[.string s, .string ⟨#[48, 120]⟩] w fun e w' => e = .returned (.tuple #[.string (bif px s then s.extract 2 s.size else s), .bool (px s)]) ∧ w = w' := by
  have hp := prefix_any s w hm
  have hl := @px_le s
  unfold maxLen at hm
  cases h : px s with
  | false =>
    rw [h] at hp
    clear hl h
    go_enter Try.func45, Try.ntmps45
    go_wp2_with (go_at_call 52; refine hp.mono ?_; rintro e w' ⟨rfl, rfl⟩)
    go_ret2
    exact ⟨rfl, rfl⟩
  | true =>
    rw [h] at hp
    have h2 := hl h
    clear hl h
    go_enter Try.func45, Try.ntmps45
    go_wp2_with (go_at_call 52; refine hp.mono ?_; rintro e w' ⟨rfl, rfl⟩)
    go_ret2
    exact ⟨rfl, rfl⟩
theorem cut_any (s : ByteArray) (w : World) (hm : s.size ≤ maxLen) :
    Calls Try.prog 38 #[.string s, .string ⟨#[48, 120]⟩] w fun e w' => e = .returned (.tuple #[.string (bif px s then s.extract 2 s.size else s), .bool (px s)]) ∧ w = w' := by
  have hp := cut0_any s w hm
  generalize (bif px s then s.extract 2 s.size else s) = t at *
  generalize px s = b at *
  clear hm
  go_enter Try.func38, Try.ntmps38
  go_wp2_with (go_at_call 45; refine hp.mono ?_; rintro e w' ⟨rfl, rfl⟩)
  go_ret2
  exact ⟨rfl, rfl⟩
/-- The digits, one by one. -/
theorem digit_at (k : Nat) (h : k < 16) : ((⟨#[48, 49, 50, 51, 52, 53, 54, 55, 56, 57, 97, 98, 99, 100, 101, 102]⟩ : ByteArray)[k]'h).toNat = (hch k).toNat := by
  have all : ∀ j : Fin 16, ((⟨#[48, 49, 50, 51, 52, 53, 54, 55, 56, 57, 97, 98, 99, 100, 101, 102]⟩ : ByteArray)[j.val]'j.isLt).toNat = (hch j.val).toNat := by decide +kernel
  exact all ⟨k, h⟩
theorem hv_hch {c v : Nat} (h : hv c = some v) : (hch v).toNat = c := by
  have hl := hv_lt h
  rw [hch_nat v hl]
  unfold hv at h
  split at h
  · have := Option.some.inj h; rw [if_pos (by omega)]; omega
  · split at h
    · have := Option.some.inj h; rw [if_neg (by omega)]; omega
    · simp at h
theorem hch_inj {a b : Nat} (ha : a < 16) (hb : b < 16) (h : (hch a).toNat = (hch b).toNat) : a = b := by
  have h1 := hch_hv a ha; have h2 := hch_hv b hb
  rw [h, h2] at h1; simpa using h1.symm
end Go.Proofs.Ytjbjjiibldlipaa
