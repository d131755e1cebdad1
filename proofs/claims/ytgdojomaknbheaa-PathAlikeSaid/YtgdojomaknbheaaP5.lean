/- The document's Join, PackPath. -/
import Derived.Test.YtgdojomaknbheaaP4
namespace Go.Proofs.Ytgdojomaknbheaa
open Go.RowKit

theorem jn_one {l : List Nat} {k : Nat} (h : 2 * k + 1 < l.length) : nb (jn (l.take (2 * (k + 1)))) = nb (jn (l.take (2 * k))) ++ [.int .u8 ((16 * l.getD (2 * k) 0 + l.getD (2 * k + 1) 0 : Nat) : Int)] := by
  rw [jn_step h, nb_snoc]
theorem shl_wrap (x : Nat) (hx : x < 16) : IntKind.u8.wrap ((x : Int) * 16) = (x : Int) * 16 := by
  have all : ∀ a : Fin 16, IntKind.u8.wrap ((a.val : Int) * 16) = (a.val : Int) * 16 := by decide +kernel
  exact all ⟨x, hx⟩
theorem joinL_no {l : List Nat} {j : Nat} (h : j < l.length) (hx : 15 < l.getD j 0) : joinL l = none := by
  have := allN_bad (m := l.length) h h hx
  rw [List.take_length] at this
  unfold joinL; rw [if_neg (fun h => by rw [this] at h; exact absurd h.2 (by decide))]
set_option maxHeartbeats 4000000 in
set_option maxRecDepth 100000 in
theorem refJoin_any (v : Value) (l : List Nat) (w : World) (hm : l.length ≤ 1000000) (hv : RdA [] w v l) :
    Calls Try.prog 9 #[v] w (OptPost w (joinL l)) := by
  obtain ⟨i0, hi, hz0, hz1, hz2⟩ := info_parts A_info
  obtain ⟨_, n, c', rfl⟩ := slice_keep hv
  have hlen := hv.len
  obtain ⟨_, _, hq, hcap, hb, hc⟩ := id hv
  cases hq
  have HC := Lib.hid hc
  have HB := Lib.hid hb
  clear hc hb hv hlen
  rcases Nat.mod_two_eq_zero_or_one l.length with hp | hp
  · have hpar : ((l.length : Int) % 2 != 0) = false := by rw [bne_eq_false_iff_eq]; omega
    obtain ⟨N, hN⟩ : ∃ N, l.length ≤ 2 * N ∧ 2 * N ≤ l.length := ⟨l.length / 2, by omega, by omega⟩
    go_enter Try.func9, Try.ntmps9
    go_wp2
    go_loopw [4, 5] (fun u i wr => ∃ k : Nat, k ≤ N ∧ i = .int .i64 ((2 * k : Nat) : Int) ∧ wr.ownsRow w.heap.size 5 1 u k (nb (jn (l.take (2 * k)))) ∧ Tch [] w wr ∧ Hid (allN (l.take (2 * k)) = true)) (fun _ i _ => l.length - (intOf i).toNat)
    case atStart => exact ⟨0, Nat.zero_le _, rfl, ⟨rfl, .inl ⟨rfl, rfl⟩⟩, Tch.refl _ _, Lib.hid rfl⟩
    case round =>
      obtain ⟨k, hk, rfl, hown, hT, HA⟩ := hrel
      by_cases hlt : k < N
      · have hne : l ≠ [] := by intro e; subst e; simp at hN; omega
        obtain ⟨b, o, rfl, hbw, hbX, hc⟩ := HC.out hne
        have h0 : 2 * k < l.length := by omega
        have h1 : 2 * k + 1 < l.length := by omega
        have hx := HB.out (l.getD (2 * k) 0) (by rw [List.getD_eq_getElem?_getD, List.getElem?_eq_getElem h0]; exact List.getElem_mem h0)
        have hy := HB.out (l.getD (2 * k + 1) 0) (by rw [List.getD_eq_getElem?_getD, List.getElem?_eq_getElem h1]; exact List.getElem_mem h1)
        have hck := (hT.cell (p := ⟨b, o + 2 * k, none⟩) hbw hbX).trans (hc _ h0)
        have hck1 := (hT.cell (p := ⟨b, o + (2 * k + 1), none⟩) hbw hbX).trans (hc _ h1)
        have hst := jn_one h1
        have hal := fun a b => allN_step h1 HA.out a b
        have hb0 := fun h => joinL_no (l := l) (j := 2 * k) h0 h
        have hb1 := fun h => joinL_no (l := l) (j := 2 * k + 1) h1 h
        obtain ⟨x, hxx⟩ : ∃ x, x = l.getD (2 * k) 0 := ⟨_, rfl⟩
        obtain ⟨y, hyy⟩ : ∃ y, y = l.getD (2 * k + 1) 0 := ⟨_, rfl⟩
        rw [← hxx] at hck hx hst hal hb0
        rw [← hyy] at hck1 hy hst hal hb1
        have HST := Lib.hid hst
        have HAL := Lib.hid hal
        have HB0 := Lib.hid hb0
        have HB1 := Lib.hid hb1
        have HE := Lib.hid (And.intro hxx hyy)
        clear hc hxx hyy hst hal hb0 hb1
        have q1 : (0 : Int) ≤ 2 * (k : Int) := by omega
        have q2 : 2 * (k : Int) < (l.length : Int) := by omega
        have q3 : (2 * (k : Int)).toNat = 2 * k := by omega
        have q4 : (0 : Int) ≤ 2 * (k : Int) + 1 := by omega
        have q5 : 2 * (k : Int) + 1 < (l.length : Int) := by omega
        have q6 : (2 * (k : Int) + 1).toNat = 2 * k + 1 := by omega
        have q7 : IntKind.i64.wrap (2 * (k : Int) + 1) = 2 * (k : Int) + 1 := by rw [IntKind.wrap_i64]; omega
        by_cases hx15 : 15 < x
        · have hd : (15 : Int) < (x : Int) := by omega
          go_wp2
          go_ret2
          exact optpost_no (HB0.out hx15) hT
        · have hd : ¬ (15 : Int) < (x : Int) := by omega
          by_cases hy15 : 15 < y
          · have hd1 : (15 : Int) < (y : Int) := by omega
            go_wp2
            go_ret2
            exact optpost_no (HB1.out hy15) hT
          · have hd1 : ¬ (15 : Int) < (y : Int) := by omega
            have hsw := shl_wrap x (by omega)
            have hso := shl_or x y (by omega) (by omega)
            have hxy : 16 * x + y < 256 := by omega
            have hne : u4.ownBlock ≠ some b := fun e => by have := (hown.lt b e).1; omega
            have hpr := hT.size
            have hbr : b < wr.heap.size := by omega
            go_wp2
            go_region_held3 (fun w' => w'.cell? ⟨b, o + 2 * k, none⟩ = some (.int .u8 (x : Int)) ∧ w'.cell? ⟨b, o + (2 * k + 1), none⟩ = some (.int .u8 (y : Int)))
              (first
                | go_keep
                | (go_split_ands
                   refine ⟨?_, ?_⟩ <;> (rw [hgrow.cell_far _ (by simp; omega) (Ne.symm hne)]; assumption)))
              ((refine step_append_lies _ (by rfl) _ _ _ (by rfl) w.heap.size 5 i0 _ 1 1 bytes_ty hi hz0 hz1 hz2 rfl (by omega) u4 _ _ (by rfl) ((hown.alloc _).drew) ⟨wr.heap.size, 0, none⟩ 1 1 [.int .u8 (16 * (x : Int) + (y : Int))] (by rfl) (by rfl) (World.news_of_block (cs := #[.int .u8 (16 * (x : Int) + (y : Int))]) (t := 5) (fr := (0, 0)) (heap_alloc_new wr (.cells #[.int .u8 (16 * (x : Int) + (y : Int))] 5))) (by simp [Value.oneCell']) (by omega) (by unfold maxLen; omega) (by omega) (by simp; omega) (wr.heap.size + 1) (by simp) ?_; intro gg cap w1 hown1 hgrow hat hlt1))
            all_goals
              have hown2 : w1.ownsRow w.heap.size 5 1 (.slice (some ⟨gg, 0, none⟩) (k + 1) cap) (k + 1) (nb (jn (l.take (2 * (k + 1))))) := by
                rw [HST.out]; exact hown1
              have hb2 : Tch [] w w1 := Tch.of_below (((hT.below.alloc hT.size _).drew).grown hgrow (by simp; omega) (fun g hg => (hown.lt g hg).1))
              clear hown1 hgrow hat hlt1 hck hown hT
              go_wp2
              go_roundw
              case rel => exact ⟨k + 1, hlt, by go_num, hown2, hb2, Lib.hid (HAL.out (by omega) (by omega))⟩
              case measure => simp [intOf]; omega
      · obtain rfl : k = N := by omega
        have htk : l.take (2 * k) = l := List.take_of_length_le (by omega)
        have HR := Lib.hid (And.intro (show joinL l = some (jn l) by unfold joinL; rw [if_pos ⟨hp, by have := HA.out; rwa [htk] at this⟩]) (And.intro (jn_lt l (by have := HA.out; rwa [htk] at this)) (show (jn l).length = k by rw [jn_length]; omega)))
        rw [htk] at hown
        clear htk
        go_wp2
        go_ret2
        exact optpost_yes HR.out.1 hT ((RdB.own (l := jn l) (by rw [← HR.out.2.2] at hown; exact hown) HR.out.2.1).rdA (by simp))
  · have hpar : ((l.length : Int) % 2 != 0) = true := by rw [bne_iff_ne]; omega
    have HJ := Lib.hid (show joinL l = none by unfold joinL; rw [if_neg (fun h => by omega)])
    go_enter Try.func9, Try.ntmps9
    go_wp2
    go_ret2
    exact optpost_no HJ.out (Tch.refl _ _)
end Go.Proofs.Ytgdojomaknbheaa
