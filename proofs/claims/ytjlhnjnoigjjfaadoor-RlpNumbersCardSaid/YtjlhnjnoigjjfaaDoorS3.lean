/- The law's own size, Big. -/
import Derived.Test.YtjlhnjnoigjjfaaDoorS2
namespace Go.Proofs.YtjlhnjnoigjjfaaDoor
open Go.RowKit

set_option maxHeartbeats 2000000 in
set_option maxRecDepth 100000 in
theorem size_step (k : Nat) (ih : SizeOK k) : SizeOK (k + 1) := by
  intro y0 yb yl left w hr hl1 hl5
  unfold ItR at hr
  obtain ⟨⟨d, rfl⟩, ⟨pb, nb, cb, rfl, hnb⟩, pl, nl, cl, rfl, hcl, hnl, hcells⟩ := hr
  have hS := St.start w
  have HC := Lib.hid hcells
  have HI := Lib.hid ih
  clear hcells ih
  go_enter Tryd.func17, Tryd.ntmps17
  go_wp2_with (refine st_box (L := []) hS rfl 27 _ rfl rfl ?_; clear hS; intro w0 b0 hS; have d1 := (hS.get .head).cell (j := 1) rfl; have d2 := (hS.get .head).cell (j := 2) rfl)
  clear d1 d2
  go_loopw [5, 6] (fun nv i wr => ∃ n m : Nat, nv = .int .i64 (n : Int) ∧ i = .int .i64 (m : Int) ∧ m ≤ nl ∧ 1 + nb ≤ n ∧ n ≤ left + 4611686018427387904 ∧ St [] w wr [(b0, 27, #[.bool d, .slice pb nb cb, .slice pl nl cl])] ∧ Hid (SizeInv k left (.slice pl nl cl) w m n)) (fun _ i _ => nl - (intOf i).toNat)
  case atStart => exact ⟨1 + nb, 0, by go_num, rfl, Nat.zero_le _, Nat.le_refl _, by omega, hS, Lib.hid (sizeinv_start _ _ _ _ _)⟩
  case round =>
    clear hS
    obtain ⟨n, m, rfl, rfl, hm, hn, hn2, hS, HA⟩ := hrel
    have d2 := (hS.get .head).cell (j := 2) rfl
    by_cases hlt : m < nl
    · have e1 : (m : Int) < (nl : Int) := by omega
      by_cases hlf : n < left
      · have e2 : (n : Int) < (left : Int) := by omega
        obtain ⟨b, o, rfl, hbw, hbX, hcs⟩ := HC.out (by omega)
        obtain ⟨z0, zb, zl, g0, g1, g2, hz⟩ := hcs m hlt
        have hT := hS.frame
        have f0 := (hT.cell (p := ⟨b, o + m * 3, none⟩) hbw (by simp)).trans g0
        have f1 := (hT.cell (p := ⟨b, o + m * 3 + 1, none⟩) hbw (by simp)).trans g1
        have f2 := (hT.cell (p := ⟨b, o + m * 3 + 2, none⟩) hbw (by simp)).trans g2
        obtain ⟨L1, hL1⟩ : ∃ L1, L1 = left - n := ⟨_, rfl⟩
        have hsub : (left : Int) - (n : Int) = (L1 : Int) := by omega
        have hL5 : L1 ≤ 5000 := by omega
        have HK := Lib.hid (HI.out z0 zb zl L1 wr (hz.tch hT) (by omega) (by omega))
        have HST := Lib.hid (fun (n' : Nat) (hch : ∀ it, ItC [] wr k z0 zb zl it → n' < L1 → (enc it).length ≤ 5 * n') => sizeinv_step (n' := n') HA.out (by omega) rfl g0 g1 g2 (fun it hit hlt' => hch it (hit.tch hT) (by omega)))
        have HG := Lib.hid (And.intro g0 (And.intro g1 g2))
        have hLn : L1 + n ≤ left := by omega
        clear hcs g0 g1 g2 hz hL1
        go_wp2_with (go_at_call 17; go_must ((with_reducible refine HK.out.mono ?_); rintro e w3 ⟨hT3, n', rfl, h1, h2, h3⟩; replace hS := hS.call hT3; have HP := Lib.hid h3; clear h3))
        go_roundw
        case rel => exact ⟨n + n', m + 1, by go_num, by go_num, hlt, by omega, by omega, hS, Lib.hid (HST.out n' HP.out)⟩
        case measure => simp [intOf]; omega
      · have e2 : ¬ (n : Int) < (left : Int) := by omega
        go_wp2
        go_ret
        exact size_end hS.frame hl1 hl5 hn hn2 (fun m' hlt' _ => absurd hlt' hlf)
    · have e1 : ¬ (m : Int) < (nl : Int) := by omega
      go_wp2
      go_ret
      exact size_end hS.frame hl1 hl5 hn hn2 (fun m' _ hm' => by rw [show m' = m by omega]; exact HA.out)
theorem size_any : ∀ k, SizeOK k
  | 0 => fun _ _ _ _ _ h _ _ => h.elim
  | k + 1 => size_step k (size_any k)
/-- What Big answers: where it is false the item has no more than so many bytes. -/
def BigPost (k : Nat) (y0 yb yl : Value) (w : World) (e : Ending) (w' : World) : Prop :=
  Tch [] w w' ∧ ∃ q : Bool, e = .returned (.bool q) ∧ ∀ it, ItC [] w k y0 yb yl it → q = false → (enc it).length ≤ 25000
set_option maxHeartbeats 2000000 in
set_option maxRecDepth 100000 in
theorem big_any (k : Nat) (y0 yb yl : Value) (w : World) (hr : ItR [] w k y0 yb yl) : Calls Tryd.prog 5 #[.agg #[y0, yb, yl]] w (BigPost k y0 yb yl w) := by
  have hS := St.start w
  have HK := Lib.hid (fun (w1 : World) (hT : Tch [] w w1) => size_any k y0 yb yl 5000 w1 (hr.tch hT) (by decide) (by decide))
  obtain ⟨f0, f1, f2, hty, _⟩ := item_ty
  clear hr
  go_enter Tryd.func5, Tryd.ntmps5
  go_wp2_with (first
    | (refine st_box (L := []) hS rfl 27 _ rfl rfl ?_; clear hS; intro w0 b0 hS; have d0 := (hS.get .head).cell (j := 0) rfl; have d1 := (hS.get .head).cell (j := 1) rfl; have d2 := (hS.get .head).cell (j := 2) rfl)
    | (go_at_call 17; go_must (refine (HK.out _ hS.frame).mono ?_; rintro e w3 ⟨hT3, n, rfl, h1, h2, h3⟩; have HP := Lib.hid h3; have HF := Lib.hid hS.frame; replace hS := hS.call hT3; clear h3)))
  go_ret
  refine ⟨hS.frame, _, rfl, fun it hit hq => ?_⟩
  have hn : n < 5000 := by
    have := of_decide_eq_false hq
    omega
  have := HP.out it (hit.tch HF.out) hn
  omega
end Go.Proofs.YtjlhnjnoigjjfaaDoor
