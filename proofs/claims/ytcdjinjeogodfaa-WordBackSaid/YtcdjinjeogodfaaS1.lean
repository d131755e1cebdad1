/- The document's words as rows of digits: limbs. -/
import Derived.Test.YtcdjinjeogodfaaS0
import Derived.StillTailTactics
namespace Go.Proofs.Ytcdjinjeogodfaa
open Go.RowKit

theorem limb_or {x k : Nat} (hk : k < 16) : bits BinOp.or IntKind.i64 ((byt x (31 - 2 * k) : Nat) : Int) (((byt x (30 - 2 * k) : Nat) : Int) * 256) = ((dg x k : Nat) : Int) := by
  have h1 := byt_lt x (31 - 2 * k)
  have h2 := byt_lt x (30 - 2 * k)
  have h := dg_bytes x k hk
  generalize byt x (31 - 2 * k) = v1 at *
  generalize byt x (30 - 2 * k) = v2 at *
  have e := int_or_nat v1 (v2 * 256) (by omega) (by omega)
  rw [Nat.or_comm, show v2 * 256 ||| v1 = v2 * 256 + v1 from or_joined (k := 8) h1, h] at e
  rw [← e, Int.natCast_mul]; rfl
set_option maxHeartbeats 1000000 in
set_option maxRecDepth 100000 in
theorem limbs_any (x : Nat) (w : World) :
    Calls Try.prog 71 #[.agg (wcells x)] w fun e w' => ∃ b, e = .returned (.slice (some ⟨b, 0, none⟩) 16 16) ∧ w.heap.size ≤ b ∧ Blk w' b 3 (rowd 16 x) ∧ Below w.heap.size w w' := by
  have hS := St.start w
  go_enter Try.func71, Try.ntmps71
  go_wp2_with (first | (refine st_box hS rfl _ _ rfl rfl ?_; clear hS; intro w1 b1 hS) | (refine st_make 16 hS rfl _ _ rfl rfl rfl (by omega) ?_; clear hS; intro w1 b3 hS))
  go_loopw [4] (fun i wr => ∃ k : Nat, k ≤ 16 ∧ i = .int .i64 k ∧ St w wr [(b3, 3, rowd 16 (x % 2 ^ (16 * k))), (b1, 23, wcells x)]) (fun i _ => 16 - (intOf i).toNat)
  case atStart => exact ⟨0, by omega, rfl, by rw [row_zero_mod]; exact hS⟩
  case round =>
    clear hS
    obtain ⟨k, hk, rfl, hS⟩ := hrel
    by_cases hlt : k < 16
    · have g1 := (hS.get (.tail .head)).cell (wf_get (f := byt x) (show 31 - 2 * k < 32 by omega))
      have g2 := (hS.get (.tail .head)).cell (wf_get (f := byt x) (show 30 - 2 * k < 32 by omega))
      have g3 := (hS.get .head).cell (rf_get (f := dg (x % 2 ^ (16 * k))) hlt)
      have f3 := (hS.get .head).free k
      have ho := limb_or (x := x) hlt
      have hst := row_step (n := 16) (x := x) hlt rfl
      obtain ⟨p, hp⟩ : ∃ p, p = 31 - 2 * k := ⟨_, rfl⟩
      obtain ⟨q, hq⟩ : ∃ q, q = 30 - 2 * k := ⟨_, rfl⟩
      have u1 : IntKind.i64.wrap (2 * (k : Int)) = 2 * (k : Int) := IntWalk.i64_in _ (by omega)
      have u2 : IntKind.i64.wrap (31 - 2 * (k : Int)) = (p : Int) := by rw [IntWalk.i64_in _ (by omega)]; omega
      have u3 : IntKind.i64.wrap (30 - 2 * (k : Int)) = (q : Int) := by rw [IntWalk.i64_in _ (by omega)]; omega
      have hp2 : p < 32 := by omega
      have hq2 : q < 32 := by omega
      have hp3 : (p : Int) < 32 := by omega
      have hq3 : (q : Int) < 32 := by omega
      have hk3 : (k : Int) < 16 := by omega
      rw [← hp] at g1 ho
      rw [← hq] at g2 ho
      have l1 := byt_lt x p
      have l2 := byt_lt x q
      generalize byt x p = v1 at *
      generalize byt x q = v2 at *
      have u4 : IntKind.i64.wrap ((v2 : Int) * 256) = (v2 : Int) * 256 := IntWalk.i64_in _ (by omega)
      have HO := Lib.hid (And.intro ho hst)
      clear ho hst hp hq
      have HSS := Lib.hid hS
      clear hS
      go_wp2
      go_still_tail 17, (by kernel_rfl)
      go_wp2
      go_roundw
      case rel =>
        have hS := HSS.out
        have hn := (hS.upd .head (Only.setCell wr ⟨b3, k, none⟩ (.int .i64 (bits BinOp.or IntKind.i64 (v1 : Int) ((v2 : Int) * 256)))) ((hS.get .head).set k _)).drew
        rw [HO.out.1, HO.out.2] at hn
        rw [HO.out.1]
        exact ⟨k + 1, by omega, by go_num, hn⟩
      case measure => simp [intOf]; omega
    · obtain rfl : k = 16 := by omega
      rw [row_mod] at hS
      go_wp2
      go_ret
      exact ⟨b3, rfl, hS.le .head, hS.get .head, hS.below⟩
end Go.Proofs.Ytcdjinjeogodfaa
