/- rlp.Int, the document's IntOf, over what word.Int and the document's Int answer. -/
import Derived.Test.YtjlhnjnoigjjfaaDoorN4
namespace Go.Proofs.YtjlhnjnoigjjfaaDoor
open Go.RowKit

/-- The number of bytes, the greatest first. -/
def bval (W : List Nat) : Nat := W.foldl (fun a x => a * 256 + x) 0
def wInt (W : List Nat) : Option Nat := if bval W < 2 ^ 63 then some (bval W) else none
theorem wInt_zeros : wInt zeros32 = some 0 := by decide
def IntP (r : Option Nat) (w : World) (e : Ending) (w' : World) : Prop :=
  e = .returned (.tuple #[.int .i64 ((r.getD 0 : Nat) : Int), .bool r.isSome]) ∧ Tch [] w w'
def intOfN (it : It) : Option Nat := (wordOf it).bind wInt
theorem wordOf_ok {it : It} {W : List Nat} (hb : ∀ L, it = .str L → ∀ x ∈ L, x < 256) (h : wordOf it = some W) : W.length = 32 ∧ ∀ x ∈ W, x < 256 := by
  cases it with
  | lst its => cases h
  | str L =>
    have h' : (if L.length ≤ 32 ∧ L.head? ≠ some 0 then some (padL L) else none) = some W := h
    split at h'
    · rename_i hc
      cases h'
      exact ⟨padL_len hc.1, padL_lt (hb L rfl)⟩
    · cases h'
theorem zeros_ok : zeros32.length = 32 ∧ ∀ x ∈ zeros32, x < 256 := ⟨by decide, by decide⟩
set_option maxHeartbeats 2000000 in
set_option maxRecDepth 100000 in
theorem pint_any (q : Bool) (yb yl : Value) (it : It) (w : World) (hb : ∀ L, it = .str L → ∀ x ∈ L, x < 256)
    (HW : ∀ w', Tch [] w w' → Calls Tryd.prog 8 #[.agg #[.bool q, yb, yl]] w' (WordPost it w'))
    (HI : ∀ W w', W.length = 32 → (∀ x ∈ W, x < 256) → Calls Tryd.prog 18 #[.agg (wv W)] w' (IntP (wInt W) w')) :
    Calls Tryd.prog 6 #[.agg #[.bool q, yb, yl]] w (IntP (intOfN it) w) := by
  have hS := St.start w
  obtain ⟨f0, f1, f2, hfs, _⟩ := item_ty
  have HT := Lib.hid hfs
  clear hfs
  obtain ⟨z, hz, hz0⟩ : ∃ z, z = (bc 32 fun _ => 0) ∧ (Tryd.prog.info? 23).bind (·.zero) = some (.agg z) := ⟨_, rfl, word_zero⟩
  have HZ := Lib.hid (And.intro (show z.size = 32 by rw [hz]; exact bc_size _ _) hz0)
  clear hz hz0
  cases hwo : wordOf it with
  | none =>
    have HE := Lib.hid (show intOfN it = none by unfold intOfN; rw [hwo]; rfl)
    have HC := Lib.hid (fun (w' : World) (h : Tch [] w w') => show Calls Tryd.prog 8 #[.agg #[.bool q, yb, yl]] w' (fun e w'' => e = .returned (.tuple #[.agg (wv zeros32), .bool false]) ∧ Tch [] w' w'') from (HW w' h).mono fun e w'' h2 => by unfold WordPost at h2; rw [hwo] at h2; exact h2)
    clear HW HI hwo hb
    go_enter Tryd.func6, Tryd.ntmps6
    go_wp2_with (first
      | (refine st_box (L := []) hS rfl 27 _ rfl rfl ?_; clear hS; intro w1 b1 hS)
      | (refine st_load (b := b1) hS rfl 27 _ rfl rfl .head HT.out rfl itemN_size rfl ?_)
      | (go_at_call 8; go_must (refine (HC.out _ hS.frame).mono ?_; rintro e w2 ⟨rfl, hT2⟩; replace hS := hS.call hT2; clear hT2))
      | (refine st_new hS rfl 23 rfl HZ.out.2 ?_; clear hS; intro w3 b3 hS)
      | (refine st_store (b := b3) (c' := wv zeros32) hS rfl 23 _ _ rfl rfl rfl .head wordN_size HZ.out.1 (bc_size _ _) (bc_one _ _) ?_; clear hS; intro w6 hS))
    go_ret2
    exact ⟨by rw [HE.out]; rfl, hS.frame⟩
  | some W =>
    obtain ⟨hn, hl⟩ := wordOf_ok hb hwo
    have HE := Lib.hid (show intOfN it = wInt W by unfold intOfN; rw [hwo]; rfl)
    have HC := Lib.hid (fun (w' : World) (h : Tch [] w w') => show Calls Tryd.prog 8 #[.agg #[.bool q, yb, yl]] w' (fun e w'' => e = .returned (.tuple #[.agg (wv W), .bool true]) ∧ Tch [] w' w'') from (HW w' h).mono fun e w'' h2 => by unfold WordPost at h2; rw [hwo] at h2; exact h2)
    have HD := Lib.hid (fun (w' : World) => HI W w' hn hl)
    clear HW HI hwo hb hn hl
    go_enter Tryd.func6, Tryd.ntmps6
    go_wp2_with (first
      | (refine st_box (L := []) hS rfl 27 _ rfl rfl ?_; clear hS; intro w1 b1 hS)
      | (refine st_load (b := b1) hS rfl 27 _ rfl rfl .head HT.out rfl itemN_size rfl ?_)
      | (go_at_call 8; go_must (refine (HC.out _ hS.frame).mono ?_; rintro e w2 ⟨rfl, hT2⟩; replace hS := hS.call hT2; clear hT2))
      | (refine st_new hS rfl 23 rfl HZ.out.2 ?_; clear hS; intro w3 b3 hS)
      | (refine st_store (b := b3) (c' := wv W) hS rfl 23 _ _ rfl rfl rfl .head wordN_size HZ.out.1 (bc_size _ _) (bc_one _ _) ?_; clear hS; intro w6 hS)
      | (refine st_load (b := b3) hS rfl 23 _ rfl rfl .head wordN_type rfl wordN_size (bc_size _ _) ?_)
      | (go_at_call 18; go_must (refine (HD.out _).mono ?_; rintro e w7 ⟨rfl, hT7⟩; replace hS := hS.call hT7; clear hT7)))
    go_ret2
    exact ⟨by rw [HE.out]; rfl, hS.frame⟩
set_option maxHeartbeats 2000000 in
set_option maxRecDepth 100000 in
theorem rint_any (q : Bool) (yb yl : Value) (it : It) (w : World) (hb : ∀ L, it = .str L → ∀ x ∈ L, x < 256)
    (HW : ∀ w', Tch [] w w' → Calls Tryd.prog 9 #[.agg #[.bool q, yb, yl]] w' (WordPost it w'))
    (HI : ∀ W w', W.length = 32 → (∀ x ∈ W, x < 256) → Calls Tryd.prog 19 #[.agg (wv W)] w' (IntP (wInt W) w')) :
    Calls Tryd.prog 7 #[.agg #[.bool q, yb, yl]] w (IntP (intOfN it) w) := by
  have hS := St.start w
  obtain ⟨f0, f1, f2, hfs, _⟩ := item_ty
  have HT := Lib.hid hfs
  clear hfs
  obtain ⟨z, hz, hz0⟩ : ∃ z, z = (bc 32 fun _ => 0) ∧ (Tryd.prog.info? 23).bind (·.zero) = some (.agg z) := ⟨_, rfl, word_zero⟩
  have HZ := Lib.hid (And.intro (show z.size = 32 by rw [hz]; exact bc_size _ _) hz0)
  clear hz hz0
  cases hwo : wordOf it with
  | none =>
    have HE := Lib.hid (show intOfN it = none by unfold intOfN; rw [hwo]; rfl)
    have HC := Lib.hid (fun (w' : World) (h : Tch [] w w') => show Calls Tryd.prog 9 #[.agg #[.bool q, yb, yl]] w' (fun e w'' => e = .returned (.tuple #[.agg (wv zeros32), .bool false]) ∧ Tch [] w' w'') from (HW w' h).mono fun e w'' h2 => by unfold WordPost at h2; rw [hwo] at h2; exact h2)
    have HD := Lib.hid (fun (w' : World) => show Calls Tryd.prog 19 #[.agg (wv zeros32)] w' (fun e w'' => e = .returned (.tuple #[.int .i64 0, .bool true]) ∧ Tch [] w' w'') from (HI zeros32 w' zeros_ok.1 zeros_ok.2).mono fun e w'' h2 => by unfold IntP at h2; rw [wInt_zeros] at h2; exact h2)
    clear HW HI hwo hb
    go_enter Tryd.func7, Tryd.ntmps7
    go_wp2_with (first
      | (refine st_box (L := []) hS rfl 27 _ rfl rfl ?_; clear hS; intro w1 b1 hS)
      | (refine st_load (b := b1) hS rfl 27 _ rfl rfl .head HT.out rfl itemN_size rfl ?_)
      | (go_at_call 9; go_must (refine (HC.out _ hS.frame).mono ?_; rintro e w2 ⟨rfl, hT2⟩; replace hS := hS.call hT2; clear hT2))
      | (refine st_new hS rfl 23 rfl HZ.out.2 ?_; clear hS; intro w3 b3 hS)
      | (refine st_store (b := b3) (c' := wv zeros32) hS rfl 23 _ _ rfl rfl rfl .head wordN_size HZ.out.1 (bc_size _ _) (bc_one _ _) ?_; clear hS; intro w6 hS)
      | (refine st_load (b := b3) hS rfl 23 _ rfl rfl .head wordN_type rfl wordN_size (bc_size _ _) ?_)
      | (go_at_call 19; go_must (refine (HD.out _).mono ?_; rintro e w7 ⟨rfl, hT7⟩; replace hS := hS.call hT7; clear hT7)))
    go_ret2
    exact ⟨by rw [HE.out]; rfl, hS.frame⟩
  | some W =>
    obtain ⟨hn, hl⟩ := wordOf_ok hb hwo
    have HE := Lib.hid (show intOfN it = wInt W by unfold intOfN; rw [hwo]; rfl)
    have HC := Lib.hid (fun (w' : World) (h : Tch [] w w') => show Calls Tryd.prog 9 #[.agg #[.bool q, yb, yl]] w' (fun e w'' => e = .returned (.tuple #[.agg (wv W), .bool true]) ∧ Tch [] w' w'') from (HW w' h).mono fun e w'' h2 => by unfold WordPost at h2; rw [hwo] at h2; exact h2)
    have HD := Lib.hid (fun (w' : World) => HI W w' hn hl)
    clear HW HI hwo hb hn hl
    go_enter Tryd.func7, Tryd.ntmps7
    go_wp2_with (first
      | (refine st_box (L := []) hS rfl 27 _ rfl rfl ?_; clear hS; intro w1 b1 hS)
      | (refine st_load (b := b1) hS rfl 27 _ rfl rfl .head HT.out rfl itemN_size rfl ?_)
      | (go_at_call 9; go_must (refine (HC.out _ hS.frame).mono ?_; rintro e w2 ⟨rfl, hT2⟩; replace hS := hS.call hT2; clear hT2))
      | (refine st_new hS rfl 23 rfl HZ.out.2 ?_; clear hS; intro w3 b3 hS)
      | (refine st_store (b := b3) (c' := wv W) hS rfl 23 _ _ rfl rfl rfl .head wordN_size HZ.out.1 (bc_size _ _) (bc_one _ _) ?_; clear hS; intro w6 hS)
      | (refine st_load (b := b3) hS rfl 23 _ rfl rfl .head wordN_type rfl wordN_size (bc_size _ _) ?_)
      | (go_at_call 19; go_must (refine (HD.out _).mono ?_; rintro e w7 ⟨rfl, hT7⟩; replace hS := hS.call hT7; clear hT7)))
    go_ret2
    exact ⟨by rw [HE.out]; rfl, hS.frame⟩
end Go.Proofs.YtjlhnjnoigjjfaaDoor
