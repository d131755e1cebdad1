/- Sums of rows of digits. -/
import Derived.Test.YtcdjinjeogodfaaPA
import Derived.Deep.AppendLies
import Derived.Laws.OwnMore
namespace Go.Proofs.Ytcdjinjeogodfaa
open Go.RowKit

theorem one_new (w : World) (t : TypeId) (v : Value) : ∀ j u, ([v] : List Value)[j]? = some u → (w.alloc (.cells #[v] t)).cell? ((⟨w.heap.size, 0, none⟩ : Addr).add j) = some u := by
  intro j u hu
  rcases j with _ | j
  · have e : (⟨w.heap.size, 0, none⟩ : Addr).add 0 = ⟨w.heap.size, 0, none⟩ := by unfold Addr.add; simp
    rw [e, (Blk.new w t #[v]).cell (v := v) rfl]
    simpa using hu
  · simp at hu
theorem one_cell {v : Value} (h : v.oneCell' = true) : ∀ u ∈ [v], u.oneCell' = true := by
  intro u hu
  obtain rfl : u = v := by simpa using hu
  exact h
theorem own_row {w0 w : World} {n z : Nat} {v : Value} (hown : w.ownsRow w0.heap.size 3 1 v n (rl n z)) (hn : 0 < n) : ∃ b c, v = .slice (some ⟨b, 0, none⟩) n c ∧ w0.heap.size ≤ b ∧ Row w b n z := by
  obtain ⟨g, cap, rfl, hle, hlt⟩ := hown.form hn
  refine ⟨g, cap, rfl, hle, hlt, fun i hi => ?_⟩
  have := hown.cells (g := g) rfl i _ (rl_get hi)
  have e : (⟨g, 0, none⟩ : Addr).add i = ⟨g, i, none⟩ := by unfold Addr.add; split <;> simp_all
  rwa [e] at this
set_option maxHeartbeats 1000000 in
set_option maxRecDepth 100000 in
theorem add_rows (b1 b2 c1 c2 x y : Nat) (w : World) (h1 : Row w b1 16 x) (h2 : Row w b2 16 y) (hx : x < M256) (hy : y < M256) :
    Calls Try.prog 70 #[.slice (some ⟨b1, 0, none⟩) 16 c1, .slice (some ⟨b2, 0, none⟩) 16 c2] w fun e w' => ∃ b c, e = .returned (.slice (some ⟨b, 0, none⟩) 17 c) ∧ w.heap.size ≤ b ∧ Row w' b 17 (x + y) ∧ Below w.heap.size w w' := by
  have HX := Lib.hid (And.intro h1 (And.intro h2 (And.intro hx hy)))
  clear h1 h2 hx hy
  obtain ⟨i0, hi, hz0, hz1, hz2⟩ := info_parts int3_info
  go_enter Try.func70, Try.ntmps70
  go_wp2
  go_loopw [5, 6, 7] (fun v c i wr => ∃ k : Nat, k ≤ 16 ∧ i = .int .i64 k ∧ c = .int .i64 ((cr x y k : Nat) : Int) ∧ wr.ownsRow w.heap.size 3 1 v k (rl k (x + y)) ∧ Below w.heap.size w wr) (fun _ _ i _ => 16 - (intOf i).toNat)
  case atStart => exact ⟨0, by omega, rfl, by rw [cr_zero]; rfl, World.ownsRow_nil _ _ _ _, Below.refl _ _⟩
  case round =>
    obtain ⟨k, hk, rfl, rfl, hown, hbel⟩ := hrel
    by_cases hlt : k < 16
    · have g1 : wr.cell? ⟨b1, k, none⟩ = _ := (hbel.cell (p := ⟨b1, k, none⟩) HX.out.1.1).trans (HX.out.1.at_ hlt)
      have g2 : wr.cell? ⟨b2, k, none⟩ = _ := (hbel.cell (p := ⟨b2, k, none⟩) HX.out.2.1.1).trans (HX.out.2.1.at_ hlt)
      have hs := cr_step x y k
      have hd := dg_add x y k
      have hrl := rl_succ k (x + y)
      have lc := cr_le x y k
      have l1 := dg_lt x k
      have l2 := dg_lt y k
      generalize dg x k = p at *
      generalize dg y k = q at *
      generalize cr x y k = c at *
      have hand : bits BinOp.and IntKind.i64 ((c : Int) + (p : Int) + (q : Int)) 65535 = ((dg (x + y) k : Nat) : Int) := by rw [int_and65535, hd]; omega
      have hshr : ((c : Int) + (p : Int) + (q : Int)) / 65536 = ((cr x y (k + 1) : Nat) : Int) := by rw [hs]; omega
      have H := Lib.hid (And.intro hand (And.intro hshr hrl))
      have HB := Lib.hid hbel
      clear hs hd hand hshr hrl hbel
      go_wp2_with (first | (at_builtin; refine wpList_append_own _ rfl _ _ 48 rfl w.heap.size 3 i0 (.int .i64 0) 1 8 ints_type hi hz0 hz1 hz2 rfl (by decide) _ _ _ rfl (hown.alloc _) ⟨wr.heap.size, 0, none⟩ 1 1 [.int .i64 (bits BinOp.and IntKind.i64 ((c : Int) + (p : Int) + (q : Int)) 65535)] rfl rfl (one_new _ _ _) (one_cell rfl) (by unfold maxLen; omega) (by omega) (Nat.le_trans HB.out.size (by simp)) ?_; intro v' w1 hown' hgrow _))
      have hbel : Below w.heap.size w w1 := (HB.out.alloc HB.out.size _).grown hgrow (Nat.le_trans HB.out.size (by simp)) (fun k hk => (hown.lt k hk).1)
      replace hown := hown'
      clear hown'
      rw [H.out.1, ← H.out.2.2] at hown
      clear hgrow
      go_wp2
      go_roundw
      case rel => exact ⟨k + 1, by omega, by go_num, by rw [H.out.2.1], hown, hbel⟩
      case measure => simp [intOf]; omega
    · obtain rfl : k = 16 := by omega
      have ht := dg_top HX.out.2.2.1 HX.out.2.2.2
      have hrl := rl_succ 16 (x + y)
      rw [ht] at hrl
      have lc := cr_le x y 16
      generalize cr x y 16 = c at *
      have H := Lib.hid hrl
      have HB := Lib.hid hbel
      clear ht hrl hbel
      go_wp2_with (first | (at_builtin; refine wpList_append_own _ rfl _ _ 48 rfl w.heap.size 3 i0 (.int .i64 0) 1 8 ints_type hi hz0 hz1 hz2 rfl (by decide) _ _ _ rfl (hown.alloc _) ⟨wr.heap.size, 0, none⟩ 1 1 [.int .i64 (c : Int)] rfl rfl (one_new _ _ _) (one_cell rfl) (by unfold maxLen; omega) (by omega) (Nat.le_trans HB.out.size (by simp)) ?_; intro v' w1 hown' hgrow _))
      have hbel : Below w.heap.size w w1 := (HB.out.alloc HB.out.size _).grown hgrow (Nat.le_trans HB.out.size (by simp)) (fun k hk => (hown.lt k hk).1)
      replace hown := hown'
      clear hown'
      rw [← H.out] at hown
      clear hgrow
      obtain ⟨b, c', rfl, hle, hrow⟩ := own_row hown (by decide)
      go_wp2
      go_ret
      exact ⟨b, c', rfl, hle, hrow, hbel⟩
end Go.Proofs.Ytcdjinjeogodfaa
