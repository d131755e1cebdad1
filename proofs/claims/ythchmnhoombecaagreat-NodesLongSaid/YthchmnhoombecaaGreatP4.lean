/- path.Split, path.Join. -/
import Derived.Test.YthchmnhoombecaaGreatP3
namespace Go.Proofs.YthchmnhoombecaaGreat
open Go.RowKit

/-- The bytes whose half bytes they are. -/
def joinL (l : List Nat) : Option (List Nat) := if l.length % 2 = 0 ∧ allN l = true then some (jn l) else none
/-- Bytes, or none. -/
def OptPost (w : World) (r : Option (List Nat)) (e : Ending) (w' : World) : Prop := Tch [] w w' ∧ ∃ v, e = .returned (.tuple #[v, .bool r.isSome]) ∧ RdA [] w' v (r.getD [])
theorem optpost_no {w w' : World} {r : Option (List Nat)} (hr : r = none) (hT : Tch [] w w') : OptPost w r (.returned (.tuple #[.slice none 0 0, .bool false])) w' := by
  subst hr; exact ⟨hT, _, rfl, (RdB.nil w').rdA (by simp)⟩
theorem optpost_yes {w w' : World} {r : Option (List Nat)} {v : Value} {l : List Nat} (hr : r = some l) (hT : Tch [] w w') (hv : RdA [] w' v l) : OptPost w r (.returned (.tuple #[v, .bool true])) w' := by
  subst hr; exact ⟨hT, _, rfl, hv⟩
theorem RdA.ofBlk' {X : List Nat} {w : World} {b n : Nat} {l : List Nat} {f : Nat → Nat} (h : Blk w b 5 (bc n (wr f 0 l))) (hn : l.length = n) (hl : ∀ x ∈ l, x < 256) (hb : b ∉ X) : RdA X w (.slice (some ⟨b, 0, none⟩) n n) l := by
  subst hn
  rw [wr_zero] at h
  exact RdA.ofBlk h hl hb
theorem RdA.fresh {w w1 : World} {v : Value} {l : List Nat} {b : Nat} (h : RdA [] w v l) (hT : Tch [] w w1) (hb : w.heap.size ≤ b) : RdA [b] w1 v l :=
  (h.mono (Y := [b]) (fun y hy => .inr (by simp at hy; subst hy; exact hb))).tch (hT.mono (fun x hx => by simp at hx))
set_option maxHeartbeats 1000000 in
set_option maxRecDepth 100000 in
theorem Split_any (v : Value) (l : List Nat) (w : World) (hm : l.length ≤ 1000000) (hv : RdA [] w v l) :
    Calls Tryz.prog 29 #[v] w fun e w' => ∃ v', e = .returned v' ∧ Tch [] w w' ∧ RdA [] w' v' (nibs l) := by
  have hS := St.start w
  obtain ⟨_, n, c', rfl⟩ := slice_keep hv
  have hlen := hv.len
  obtain ⟨N, hN⟩ : ∃ N, N = 2 * n := ⟨_, rfl⟩
  have hn2 : 2 * (n : Int) = (N : Int) := by omega
  have hn6 : N ≤ 16000000 := by omega
  have hcall := fun (b : Nat) (w1 : World) (hS : St [] w w1 [(b, 5, bc N fun _ => 0)]) =>
    split_any (some ⟨b, 0, none⟩) N N b 0 N _ l 5 _ w1 (fun _ => rfl) (by omega) (by omega) (by omega) (hv.fresh hS.frame ((hS.own .head).resolve_right (by simp))) (hS.get .head)
  have HK := Lib.hid hcall
  have hend := nibs_length l
  have HE := Lib.hid (show (nibs l).length = N by omega)
  have HLT := Lib.hid (nibs_lt hv.lt)
  clear hcall hend hv hN hlen
  go_enter Tryz.func29, Tryz.ntmps29
  go_wp2_with (first
    | (refine st_makeB N hS rfl _ _ rfl (by rw [← hn2]; rfl) (by rw [← hn2]; rfl) (by omega) ?_; clear hS; intro w1 b1 hS)
    | (go_at_call 47; (with_reducible refine (HK.out _ _ hS).mono ?_); rintro e w2 ⟨rfl, hT2, hB2⟩; replace hS := hS.on1 .head hT2 hB2))
  go_ret
  exact ⟨_, rfl, hS.frame, RdA.ofBlk' (hS.get .head) HE.out (fun x hx => Nat.lt_of_lt_of_le (HLT.out x hx) (by decide)) (by simp)⟩
end Go.Proofs.YthchmnhoombecaaGreat
