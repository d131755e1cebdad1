/- The document's Split. -/
import Derived.Test.YtgdojomaknbheaaP1
import Derived.Deep.RegionLawGrows
import Derived.Deep.AppendLies
namespace Go.Proofs.Ytgdojomaknbheaa
open Go.RowKit

set_option maxHeartbeats 1000000 in
set_option maxRecDepth 100000 in
theorem refSplit_any (v : Value) (l : List Nat) (w : World) (hm : l.length ≤ 1000000) (hv : RdA [] w v l) :
    Calls Try.prog 14 #[v] w fun e w' => ∃ v', e = .returned v' ∧ Tch [] w w' ∧ w'.ownsRow w.heap.size 5 1 v' (nibs l).length (nb (nibs l)) := by
  obtain ⟨i0, hi, hz0, hz1, hz2⟩ := info_parts A_info
  obtain ⟨_, c', rfl, hcap, hb, hc⟩ := id hv
  have HC := Lib.hid hc
  have HB := Lib.hid hb
  clear hc hb hv
  go_enter Try.func14, Try.ntmps14
  go_wp2
  go_loopw [3, 4] (fun o i wr => ∃ k : Nat, k ≤ l.length ∧ i = .int .i64 (k : Int) ∧ wr.ownsRow w.heap.size 5 1 o (nibs (l.take k)).length (nb (nibs (l.take k))) ∧ Tch [] w wr) (fun _ i _ => l.length - (intOf i).toNat)
  case atStart => exact ⟨0, Nat.zero_le _, rfl, own_nil _ _, Tch.refl _ _⟩
  case round =>
    obtain ⟨k, hk, rfl, hown, hT⟩ := hrel
    by_cases hlt : k < l.length
    · have hne : l ≠ [] := by intro e; subst e; simp at hlt
      obtain ⟨b, o, rfl, hbw, hbX, hc⟩ := HC.out hne
      have hx := HB.out (l.getD k 0) (by rw [List.getD_eq_getElem?_getD, List.getElem?_eq_getElem hlt]; exact List.getElem_mem hlt)
      have hck := (hT.cell (p := ⟨b, o + k, none⟩) hbw hbX).trans (hc k hlt)
      obtain ⟨x, hxx⟩ : ∃ x, x = l.getD k 0 := ⟨_, rfl⟩
      rw [← hxx] at hck hx
      have hst := nibs_step hlt
      rw [← hxx, List.append_assoc] at hst
      have HST := Lib.hid hst
      have HL := Lib.hid (nibs_take_len hk)
      have h16 := and15 x hx
      have H4 := Lib.hid (shr4 x)
      have HXX := Lib.hid hxx
      clear hc hxx hst
      have hne : u3.ownBlock ≠ some b := fun e => by have := (hown.lt b e).1; omega
      have hpr := hT.size
      have hlen := HL.out
      have hki : (k : Int) < (l.length : Int) := by omega
      have hbr : b < wr.heap.size := by omega
      go_wp2
      go_region_held3 (fun w' => w'.cell? ⟨b, o + k, none⟩ = some (.int .u8 (x : Int)))
        (first
          | go_keep
          | (go_split_ands
             (rw [hgrow.cell_far _ (by simp; omega) (Ne.symm hne)]; assumption)))
        ((refine step_append_lies _ (by rfl) _ _ _ (by rfl) w.heap.size 5 i0 _ 1 1 bytes_ty hi hz0 hz1 hz2 rfl (by omega) u3 _ _ (by rfl) ((hown.alloc _).drew) ⟨wr.heap.size, 0, none⟩ 2 2 [.int .u8 ((x : Int) / 16), .int .u8 ((x : Int) % 16)] (by rfl) (by rfl) (World.news_of_block (cs := #[.int .u8 ((x : Int) / 16), .int .u8 ((x : Int) % 16)]) (t := 5) (fr := (0, 0)) (heap_alloc_new wr (.cells #[.int .u8 ((x : Int) / 16), .int .u8 ((x : Int) % 16)] 5))) (by simp [Value.oneCell']) (by omega) (by unfold maxLen; omega) (by omega) (by simp; omega) (wr.heap.size + 1) (by simp) ?_; intro gg cap w1 hown1 hgrow hat hlt1))
      all_goals
        have hown2 : w1.ownsRow w.heap.size 5 1 (.slice (some ⟨gg, 0, none⟩) ((nibs (l.take k)).length + 2) cap) (nibs (l.take (k + 1))).length (nb (nibs (l.take (k + 1)))) := by
          have e : nb (nibs (l.take (k + 1))) = nb (nibs (l.take k)) ++ [.int .u8 ((x : Int) / 16), .int .u8 ((x : Int) % 16)] := by
            rw [HST.out]; simp [nb]
          rw [e, HST.out, List.length_append]; exact hown1
        have hb2 : Tch [] w w1 := Tch.of_below (((hT.below.alloc hT.size _).drew).grown hgrow (by simp; omega) (fun g hg => (hown.lt g hg).1))
        clear hown1 hgrow hat hlt1 hck hown hT
        go_wp2
        go_roundw
        case rel => exact ⟨k + 1, hlt, by go_num, by rw [hlen] at hown2; exact hown2, hb2⟩
        case measure => simp [intOf]; omega
    · obtain rfl : k = l.length := by omega
      go_wp2
      go_ret
      exact ⟨_, rfl, hT, by rw [List.take_length] at hown; exact hown⟩
end Go.Proofs.Ytgdojomaknbheaa
