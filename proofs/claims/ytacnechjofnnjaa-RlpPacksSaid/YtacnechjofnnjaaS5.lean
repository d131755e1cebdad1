/- The document's head. -/
import Derived.Test.YtacnechjofnnjaaS4
namespace Go.Proofs.Ytacnechjofnnjaa
open Go.RowKit

/-- The same, as the call's own. -/
theorem own_lit {w w0 : World} (l : List Nat) (hw : w0.heap.size ≤ w.heap.size) (hl : l.length ≤ 1000) (cs : Array Value) (hc : cs = (nb l).toArray) : (w.alloc (.cells cs 5)).ownsRow w0.heap.size 5 1 (.slice (some ⟨w.heap.size, 0, none⟩) l.length l.length) l.length (nb l) := by
  subst hc
  refine ⟨by rw [nb_length, Nat.mul_one], .inr ⟨_, _, _, rfl, hw, Blk.new w _ _, Nat.le_refl _, by unfold maxLen; omega, by simp [nb_length], ?_⟩⟩
  rw [Nat.mul_one, ← nb_length l]
  exact List.take_length
theorem and255 (n : Nat) (hn : n < 4294967296) : bits BinOp.and IntKind.i64 (n : Int) 255 = ((n % 256 : Nat) : Int) := by
  have key : (BitVec.ofInt 64 (n : Int) &&& BitVec.ofInt 64 255).toNat = n % 256 := by
    rw [BitVec.toNat_and, BitVec.toNat_ofInt, BitVec.toNat_ofInt]
    have e1 : ((n : Int) % ((2 ^ 64 : Nat) : Int)).toNat = n := by omega
    have e2 : ((255 : Int) % ((2 ^ 64 : Nat) : Int)).toNat = 2 ^ 8 - 1 := by decide
    rw [e1, e2, Nat.and_two_pow_sub_one_eq_mod]
  show IntKind.i64.wrap ((BitVec.ofInt 64 (n : Int) &&& BitVec.ofInt 64 255).toNat : Nat) = _
  rw [key, IntKind.wrap_i64]
  omega
theorem u8_small (n : Nat) (h : n < 256) : IntKind.u8.wrap (n : Int) = (n : Int) := by rw [IntKind.wrap_u8]; omega
def HeadPost (n base : Nat) (w : World) (e : Ending) (w' : World) : Prop :=
  ∃ v, e = .returned v ∧ Tch [] w w' ∧ w'.ownsRow w.heap.size 5 1 v (hd base n).length (nb (hd base n))
set_option maxHeartbeats 1000000 in
set_option maxRecDepth 100000 in
theorem rhead_small (n base : Nat) (w : World) (hn : n ≤ 55) (hb : base ≤ 192) : Calls Try.prog 25 #[.int .i64 (n : Int), .int .i64 (base : Int)] w (HeadPost n base w) := by
  have h1 : (n : Int) < 56 := by omega
  have hw : IntKind.u8.wrap ((base : Int) + (n : Int)) = (base : Int) + (n : Int) := by rw [IntKind.wrap_u8]; omega
  have HH := Lib.hid (show hd base n = [base + n] by unfold hd; rw [if_pos hn])
  go_enter Try.func25, Try.ntmps25
  go_wp2
  go_ret
  refine ⟨_, rfl, (Tch.refl _ _).alloc _, ?_⟩
  rw [HH.out]
  exact own_lit (w0 := w) [base + n] (Nat.le_refl _) (by simp) _ rfl
set_option maxHeartbeats 1000000 in
set_option maxRecDepth 100000 in
theorem rhead_great (n base : Nat) (w : World) (hn : 55 < n) (hn4 : n < 4294967296) (hb : base ≤ 192) : Calls Try.prog 25 #[.int .i64 (n : Int), .int .i64 (base : Int)] w (HeadPost n base w) := by
  have h1 : ¬ (n : Int) < 56 := by omega
  have HH := Lib.hid (show hd base n = (base + 55 + lsz n) :: be n by unfold hd; rw [if_neg (by omega)])
  have hl4 := lsz_le hn4
  have HL := Lib.hid hl4
  have HN := Lib.hid hn4
  clear hl4 hn4
  go_enter Try.func25, Try.ntmps25
  go_wp2
  go_loopw [5, 6] (fun u i wr => ∃ (q : Nat) (B : List Nat), i = .int .i64 (q : Int) ∧ q ≤ n ∧ Tch [] w wr ∧ Hid (be q ++ B = be n) ∧ Hid (wr.ownsRow w.heap.size 5 1 u B.length (nb B))) (fun _ i _ => (intOf i).toNat)
  case atStart => exact ⟨n, [], rfl, Nat.le_refl _, Tch.refl _ _, Lib.hid (List.append_nil _), Lib.hid (own_nil _ _)⟩
  case round =>
    obtain ⟨q, B, rfl, hq, hT, HB, HO⟩ := hrel
    have HBL := Lib.hid (show B.length ≤ 4 by
      have h2 := congrArg List.length HB.out
      rw [List.length_append] at h2
      have h3 := HL.out
      unfold lsz at h3
      omega)
    have HBT := Lib.hid (show ∀ x ∈ B, x < 256 from fun x hx => be_lt n x (by rw [← HB.out]; exact List.mem_append_right _ hx))
    have HR := Lib.hid (fun (w' : World) (h : Tch [] wr w') => (RdB.own HO.out HBT.out).tch h (by simp))
    by_cases hq0 : 0 < q
    · have e1 : (0 : Int) < (q : Int) := by omega
      have ha := and255 q (by have := HN.out; omega)
      have hw := u8_small (q % 256) (by omega)
      have HBE := Lib.hid (show be (q / 256) ++ ([q % 256] ++ B) = be n by rw [← List.append_assoc, ← be_pos hq0]; exact HB.out)
      have hsz := hT.size
      go_wp2_with (at_builtin; go_must (refine st_appB (w0 := w) (l := [q % 256]) (m := B) (ty := 5) rfl _ _ rfl rfl rfl (own_lit [q % 256] hsz (by simp) _ rfl) (hT.alloc _) (HR.out _ ((Tch.refl _ _).alloc _)) (by have := HBL.out; simp; omega) ?_; intro v3 w3 hown3 hT3))
      go_roundw
      case rel => exact ⟨q / 256, [q % 256] ++ B, by go_num, by omega, hT3, HBE, Lib.hid hown3⟩
      case measure => simp [intOf]; omega
    · obtain rfl : q = 0 := by omega
      have HBE := Lib.hid (show B = be n by have := HB.out; rwa [be_zero, List.nil_append] at this)
      obtain ⟨pu, cu, hu, hcu, _⟩ := HR.out wr (Tch.refl _ _)
      obtain ⟨nu, hnu⟩ : ∃ nu, nu = B.length := ⟨_, rfl⟩
      have hnu4 : nu ≤ 4 := by have := HBL.out; omega
      rw [← hnu] at hu
      subst hu
      have hw : IntKind.u8.wrap ((base : Int) + 55 + (nu : Int)) = (base : Int) + 55 + (nu : Int) := by rw [IntKind.wrap_u8]; omega
      have HNU := Lib.hid (show lsz n = nu by unfold lsz; rw [← HBE.out]; exact hnu.symm)
      have hsz := hT.size
      clear hnu hcu
      go_wp2_with (at_builtin; go_must (refine st_appB (w0 := w) (l := [base + 55 + nu]) (m := B) (ty := 5) rfl _ _ rfl rfl rfl (own_lit [base + 55 + nu] hsz (by simp) _ rfl) (hT.alloc _) (HR.out _ ((Tch.refl _ _).alloc _)) (by have := HBL.out; simp; omega) ?_; intro v3 w3 hown3 hT3))
      go_ret
      refine ⟨_, rfl, hT3, ?_⟩
      rw [HH.out, HNU.out, ← HBE.out]
      exact hown3
theorem rhead_any (n base : Nat) (w : World) (hn : n < 4294967296) (hb : base ≤ 192) : Calls Try.prog 25 #[.int .i64 (n : Int), .int .i64 (base : Int)] w (HeadPost n base w) :=
  (Nat.lt_or_ge 55 n).elim (fun h => rhead_great n base w h hn hb) (fun h => rhead_small n base w h hb)
end Go.Proofs.Ytacnechjofnnjaa
