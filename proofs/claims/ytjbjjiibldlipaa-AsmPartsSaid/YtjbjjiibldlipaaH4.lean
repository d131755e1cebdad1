/- hex.Read. -/
import Derived.Test.YtjbjjiibldlipaaH3
import Derived.Test.YtjbjjiibldlipaaG1
namespace Go.Proofs.Ytjbjjiibldlipaa
open Go.RowKit

theorem tail_data (s : ByteArray) : (s.extract 2 s.size).data.toList = s.data.toList.drop 2 := by
  rw [ByteArray.data_extract]
  simp
  rw [List.take_of_length_le (by simp)]
theorem prs_range (l : List UInt8) (n : Nat) : ((List.range n).map fun i => (prs l n).getD i 0) = prs l n := by
  apply List.ext_getElem (by simp [prs_length])
  intro i h1 h2
  have : i < n := by simpa [prs_length] using h2
  simp [prs, this]
set_option maxHeartbeats 1000000 in
set_option maxRecDepth 100000 in
theorem hexRead_any (s : ByteArray) (w : World) (hm : s.size ≤ 1000000) :
    Calls Try.prog 28 #[.string s] w fun e w' => HexPost s w (.int .i64 2) e w' (.int .i64 0) := by
  have hcut := cut_any s w (by unfold maxLen; omega)
  have hS := St.start w
  cases hp : px s with
  | false =>
    rw [hp] at hcut
    have HN := Lib.hid (not_px hp)
    clear hp
    go_enter Try.func28, Try.ntmps28
    go_wp2_with (go_at_call 38; refine hcut.mono ?_; rintro e w' ⟨rfl, rfl⟩)
    go_ret2
    exact hexpost_no HN.out (Tch.refl _ _)
  | true =>
    rw [hp] at hcut
    have h2 := px_le hp
    obtain ⟨t, ht⟩ : ∃ t, t = s.extract 2 s.size := ⟨_, rfl⟩
    have htl : t.data.toList = s.data.toList.drop 2 := by rw [ht, tail_data]
    have hts : t.size + 2 = s.size := by rw [size_data, size_data s, htl, List.length_drop]; have := size_data s; omega
    replace hcut : Calls Try.prog 38 #[.string s, .string ⟨#[48, 120]⟩] w fun e w' => e = .returned (.tuple #[.string t, .bool true]) ∧ w = w' := by rw [ht]; exact hcut
    clear ht
    rcases Nat.mod_two_eq_zero_or_one s.size with hm2 | hm2
    · have hpar : ((t.size : Int) % 2 != 0) = false := by rw [bne_eq_false_iff_eq]; omega
      obtain ⟨n, hn⟩ : ∃ n, t.size = 2 * n := ⟨t.size / 2, by omega⟩
      have hq : (t.size : Int) / 2 = (n : Int) := by omega
      have hfill := fun (b : Nat) (w1 : World) (hB : Blk w1 b 5 (bc n fun _ => 0)) => fill_any b n n 5 t w1 (by unfold maxLen; omega) (by omega) (by omega) hB
      cases hall : allHex t.data.toList with
      | false =>
        have HN := Lib.hid (show rdOk s = false by rw [htl] at hall; unfold rdOk; rw [hall, Bool.and_false])
        have hfill2 := fun (b : Nat) (w1 : World) (hB : Blk w1 b 5 (bc n fun _ => 0)) => (hfill b w1 hB).mono (fun e w' h => (show e = .returned (.bool false) ∧ Tch [b] w1 w' from ⟨by rw [← hall]; exact h.1, h.2.1⟩))
        have HF := Lib.hid hfill2
        clear hfill hfill2 hall htl hp hm2 hn
        go_enter Try.func28, Try.ntmps28
        go_wp2_with (first | (go_at_call 38; refine hcut.mono ?_; rintro e w' ⟨rfl, rfl⟩) | (refine st_makeB n hS rfl _ _ rfl (by rw [← hq]; rfl) (by rw [← hq]; rfl) (by omega) ?_; clear hS; intro w1 b1 hS) | (go_at_call 39; refine (HF.out _ _ (hS.get .head)).mono ?_; rintro e w' ⟨rfl, hT⟩; replace hS := hS.lose hT; clear hT))
        go_ret2
        exact hexpost_no HN.out hS.frame
      | true =>
        have HO := Lib.hid (And.intro (show rdOk s = true from is_ok hp hm2 (by rw [← htl]; exact hall)) (And.intro htl (show (s.size - 2) / 2 = n by omega)))
        have hfill2 := fun (b : Nat) (w1 : World) (hB : Blk w1 b 5 (bc n fun _ => 0)) => (hfill b w1 hB).mono (fun e w' h => (show e = .returned (.bool true) ∧ Tch [b] w1 w' ∧ Blk w' b 5 (bc n fun i => (prs t.data.toList n).getD i 0) from ⟨by rw [← hall]; exact h.1, h.2.1, by
          obtain ⟨f, hf, hf2⟩ := h.2.2
          rw [hf2 hall, ← size_data, show 2 * n - t.size = 0 by omega, pad_zero, fc_end] at hf
          exact hf⟩))
        have HF := Lib.hid hfill2
        clear hfill hfill2 hall htl hp hm2 hn
        go_enter Try.func28, Try.ntmps28
        go_wp2_with (first | (go_at_call 38; refine hcut.mono ?_; rintro e w' ⟨rfl, rfl⟩) | (refine st_makeB n hS rfl _ _ rfl (by rw [← hq]; rfl) (by rw [← hq]; rfl) (by omega) ?_; clear hS; intro w1 b1 hS) | (go_at_call 39; refine (HF.out _ _ (hS.get .head)).mono ?_; rintro e w' ⟨rfl, hT, hB⟩; replace hS := hS.on1 .head hT hB; clear hT hB))
        go_ret2
        refine hexpost_yes HO.out.1 hS.frame ?_
        rw [← HO.out.2.1, HO.out.2.2]
        have := RdB.blk (hS.get .head) (fun i hi => by
          have hl : i < (prs t.data.toList n).length := by rw [prs_length]; exact hi
          have e : (prs t.data.toList n).getD i 0 = (prs t.data.toList n)[i] := by simp [hl]
          rw [e]; exact prs_lt _ _ _ (List.getElem_mem hl))
        rwa [prs_range] at this
    · have hpar : ((t.size : Int) % 2 != 0) = true := by rw [bne_iff_ne]; omega
      have HN := Lib.hid (not_even hm2)
      clear hm2 htl hp
      go_enter Try.func28, Try.ntmps28
      go_wp2_with (go_at_call 38; refine hcut.mono ?_; rintro e w' ⟨rfl, rfl⟩)
      go_ret2
      exact hexpost_no HN.out (Tch.refl _ _)
end Go.Proofs.Ytjbjjiibldlipaa
