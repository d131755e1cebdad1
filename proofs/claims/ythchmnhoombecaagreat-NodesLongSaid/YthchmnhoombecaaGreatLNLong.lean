/- The law NodesLong: the walk. -/
import Derived.Test.YthchmnhoombecaaGreatU7
namespace Go.Proofs.YthchmnhoombecaaGreat.NLong
open Go.RowKit Go.Proofs.YthchmnhoombecaaGreat

def zs (n : Nat) : List Nat := (List.range n).map fun _ => 0
theorem zs_len (n : Nat) : (zs n).length = n := by simp [zs]
theorem st_makeZ {ops : Array Oper} {rest : List Oper} {o : Oper} {a : Act} {bs : List Nat} {w0 w : World} {Q : Exit → Act → World → Prop} {L : List Ent} (n : Nat) (hS : St bs w0 w L) (hgd : o.guard = none) (x y : Operand) (ho : o.op = .makeSlice 31 x y) (hx : a.eval x = .int .i64 (n : Int)) (hy : a.eval y = .int .i64 (n : Int)) (hn : n ≤ 16777216)
    (h : ∀ w' b, St bs w0 w' L → RdB w' (.slice (some ⟨b, 0, none⟩) n n) (zs n) → Tch [] w w' → wpList Tryz.prog ops Q rest (a.put o.dst (.slice (some ⟨b, 0, none⟩) n n)) w') : wpList Tryz.prog ops Q (o :: rest) a w :=
  st_makeN n hgd x y ho hx hy hn (h _ _ (hS.alloc _) (RdB.blk (Blk.new _ _ _) (by simp)) ((Tch.refl _ _).alloc _))
set_option maxHeartbeats 4000000 in
set_option maxRecDepth 100000 in
theorem w_none (k m : Nat) (w : World) (hk : k ≤ 64) (hm : m = 0) : Calls Tryz.prog 4 #[.int .i64 (k : Int), .int .i64 (m : Int)] w fun e w' => e = .returned (.bool true) ∧ Tch [] w w' := by
  have hS := St.start w
  have kb := build_word0
  have hMark := Lib.hid trivial
  have e1 : ¬ (k : Int) < 0 := by omega
  have e2 : ¬ (200 : Int) < (k : Int) := by omega
  have e3 : ¬ (m : Int) < 0 := by omega
  have e4 : ¬ (3 : Int) < (m : Int) := by omega
  have d64 : ¬ (64 : Int) < (k : Int) := by omega
  have d3 : ((m : Int) == 3) = false := beq_eq_false_iff_ne.2 (by omega)
  have HM := Lib.hid hm
  have hm3 : m < 3 := by omega
  clear hm
  go_enter Tryz.func4, Tryz.ntmps4
  go_wp2_with (first
    | (go_at_call 5; go_must (refine (alive_any _).mono ?_; rintro e w1 ⟨rfl, hT⟩; replace hS := hS.call hT; clear hT))
    | (go_at_call 6; go_must (refine (newStore_none _).mono ?_; rintro e w1 ⟨⟨sb, rfl⟩, hT⟩; replace hS := hS.call hT; clear hT))
    | (go_at_call 15; go_must (refine (open_zero _ _).mono ?_; rintro e w2 ⟨bt, rfl, hT, hb, hB⟩; replace hS := hS.callNew' hT hb hB; clear hT hb hB))
    | (refine st_makeZ m hS rfl _ _ rfl rfl rfl (by omega) ?_; clear hS; intro w4 bv hS hrv hTv; clear hTv)
    | (have _t := hMark; clear _t hMark; refine st_makeZ k hS rfl _ _ rfl rfl rfl (by omega) ?_; clear hS; intro w6 bk hS hrk hTk; replace hrv := hrv.tch hTk (by simp); clear hTk)
    | (go_at_call 16; go_must (refine (put_none bt _ _ _ (zs k) (zs m) _ (hS.get .head) hrk hrv (by rw [zs_len]; omega) (by rw [HM.out]; rfl)).mono ?_; rintro e w7 ⟨rfl, hT, hB⟩; replace hS := hS.on1 .head hT hB; have hMark2 := Lib.hid trivial; clear hT hB hrk hrv))
    | (have _t := hMark2; clear _t hMark2; refine st_makeZ k hS rfl _ _ rfl rfl rfl (by omega) ?_; clear hS; intro w8 bk hS hrk hTk; clear hTk)
    | (go_at_call 17; go_must (refine (get_of _ _ (zs k) [] _ hrk (by rw [zs_len]; omega) (by simp) (fun w1 p1 c1 hT1 hq => (find_nil bt _ _ _ _ w1 (hT1.blk (hS.get .head) (by simp))).mono (fun e w' h => ⟨none, 0, h.1, h.2, RdB.nil w'⟩))).mono ?_; rintro e w9 ⟨hT, gp, gc, rfl, hg⟩; replace hS := hS.call hT; clear hT hg))
    | (go_at_call 18; go_must (refine (num_any _ _).mono ?_; rintro e w9 ⟨rfl, hT⟩; replace hS := hS.call hT; clear hT)))
  go_ret
  exact ⟨rfl, hS.frame⟩
set_option maxHeartbeats 4000000 in
set_option maxRecDepth 100000 in
theorem w_new (k m : Nat) (w : World) (hk : k ≤ 64) (h0 : 0 < m) (hm : m < 3) : Calls Tryz.prog 4 #[.int .i64 (k : Int), .int .i64 (m : Int)] w fun e w' => e = .returned (.bool true) ∧ Tch [] w w' := by
  have hS := St.start w
  have kb := build_word0
  have hMark := Lib.hid trivial
  have e1 : ¬ (k : Int) < 0 := by omega
  have e2 : ¬ (200 : Int) < (k : Int) := by omega
  have e3 : ¬ (m : Int) < 0 := by omega
  have e4 : ¬ (3 : Int) < (m : Int) := by omega
  have d64 : ¬ (64 : Int) < (k : Int) := by omega
  have d3 : ((m : Int) == 3) = false := beq_eq_false_iff_ne.2 (by omega)
  go_enter Tryz.func4, Tryz.ntmps4
  go_wp2_with (first
    | (go_at_call 5; go_must (refine (alive_any _).mono ?_; rintro e w1 ⟨rfl, hT⟩; replace hS := hS.call hT; clear hT))
    | (go_at_call 6; go_must (refine (newStore_none _).mono ?_; rintro e w1 ⟨⟨sb, rfl⟩, hT⟩; replace hS := hS.call hT; clear hT))
    | (go_at_call 15; go_must (refine (open_zero _ _).mono ?_; rintro e w2 ⟨bt, rfl, hT, hb, hB⟩; replace hS := hS.callNew' hT hb hB; clear hT hb hB))
    | (refine st_makeZ m hS rfl _ _ rfl rfl rfl (by omega) ?_; clear hS; intro w4 bv hS hrv hTv; clear hTv)
    | (have _t := hMark; clear _t hMark; refine st_makeZ k hS rfl _ _ rfl rfl rfl (by omega) ?_; clear hS; intro w6 bk hS hrk hTk; replace hrv := hrv.tch hTk (by simp); clear hTk)
    | (go_at_call 16; go_must (refine (put_new bt _ _ _ (zs k) (zs m) _ (hS.get .head) hrk hrv (by rw [zs_len]; omega) (by rw [zs_len]; omega) (by rw [zs_len]; omega)).mono ?_; rintro e w7 ⟨rfl, hT, v, p, u, hB, ⟨bl, rfl, hL⟩, hp, hu⟩; replace hS := hS.on1 .head hT hB; have hMark2 := Lib.hid trivial; clear hT hB hrk hrv))
    | (have _t := hMark2; clear _t hMark2; refine st_makeZ k hS rfl _ _ rfl rfl rfl (by omega) ?_; clear hS; intro w8 bk hS hrk hTk; replace hL := hTk.blk hL (by simp); replace hp := hp.tch hTk (by simp); replace hu := hu.tch hTk (by simp); clear hTk)
    | (go_at_call 17; go_must (refine (get_of _ _ (zs k) (zs m) _ hrk (by rw [zs_len]; omega) (by rw [zs_len]; omega) (fun w1 p1 c1 hT1 hq => (find_leaf bt bl _ p u _ (nibs (zs k)) (zs m) w1 (hT1.blk (hS.get .head) (by simp)) (hT1.blk hL (by simp)) (hp.tch hT1 (by simp)) (hu.tch hT1 (by simp)) hq).mono (fun e w' h => by obtain ⟨pu, cu, hs⟩ := hu.shape; subst hs; exact ⟨pu, cu, h.1, h.2, (hu.tch hT1 (by simp)).tch h.2 (by simp)⟩))).mono ?_; rintro e w9 ⟨hT, gp, gc, rfl, hg⟩; replace hS := hS.call hT; clear hT hg hL hp hu hrk))
    | (go_at_call 18; go_must (refine (num_any _ _).mono ?_; rintro e w9 ⟨rfl, hT⟩; replace hS := hS.call hT; clear hT)))
  go_ret
  exact ⟨rfl, hS.frame⟩
set_option maxHeartbeats 4000000 in
set_option maxRecDepth 100000 in
theorem w_keylong (k m : Nat) (w : World) (hk : 64 < k) (hk2 : k ≤ 200) (hm : m < 3) : Calls Tryz.prog 4 #[.int .i64 (k : Int), .int .i64 (m : Int)] w fun e w' => e = .returned (.bool true) ∧ Tch [] w w' := by
  have hS := St.start w
  have kb := build_word0
  have hMark := Lib.hid trivial
  have e1 : ¬ (k : Int) < 0 := by omega
  have e2 : ¬ (200 : Int) < (k : Int) := by omega
  have e3 : ¬ (m : Int) < 0 := by omega
  have e4 : ¬ (3 : Int) < (m : Int) := by omega
  have d64 : (64 : Int) < (k : Int) := by omega
  have d3 : ((m : Int) == 3) = false := beq_eq_false_iff_ne.2 (by omega)
  go_enter Tryz.func4, Tryz.ntmps4
  go_wp2_with (first
    | (go_at_call 5; go_must (refine (alive_any _).mono ?_; rintro e w1 ⟨rfl, hT⟩; replace hS := hS.call hT; clear hT))
    | (go_at_call 6; go_must (refine (newStore_none _).mono ?_; rintro e w1 ⟨⟨sb, rfl⟩, hT⟩; replace hS := hS.call hT; clear hT))
    | (go_at_call 15; go_must (refine (open_zero _ _).mono ?_; rintro e w2 ⟨bt, rfl, hT, hb, hB⟩; replace hS := hS.callNew' hT hb hB; clear hT hb hB))
    | (refine st_makeZ m hS rfl _ _ rfl rfl rfl (by omega) ?_; clear hS; intro w4 bv hS hrv hTv; clear hTv)
    | (have _t := hMark; clear _t hMark; refine st_makeZ k hS rfl _ _ rfl rfl rfl (by omega) ?_; clear hS; intro w6 bk hS hrk hTk; replace hrv := hrv.tch hTk (by simp); clear hTk)
    | (go_at_call 16; go_must (refine (put_long _ _ _ (zs k) (zs m) _ hrk hrv (by rw [zs_len, zs_len]; omega)).mono ?_; rintro e w7 ⟨rfl, rfl⟩; have hMark2 := Lib.hid trivial; clear hrk hrv))
    | (have _t := hMark2; clear _t hMark2; refine st_makeZ k hS rfl _ _ rfl rfl rfl (by omega) ?_; clear hS; intro w8 bk hS hrk hTk; clear hTk)
    | (go_at_call 17; go_must (refine (get_long _ _ (zs k) _ hrk (by rw [zs_len]; omega)).mono ?_; rintro e w9 ⟨rfl, rfl⟩))
    | (go_at_call 18; go_must (refine (num_any _ _).mono ?_; rintro e w9 ⟨rfl, hT⟩; replace hS := hS.call hT; clear hT)))
  go_ret
  exact ⟨rfl, hS.frame⟩
set_option maxHeartbeats 4000000 in
set_option maxRecDepth 100000 in
theorem w_vallong (k m : Nat) (w : World) (hk : k ≤ 64) (hm : m = 3) : Calls Tryz.prog 4 #[.int .i64 (k : Int), .int .i64 (m : Int)] w fun e w' => e = .returned (.bool true) ∧ Tch [] w w' := by
  have hS := St.start w
  have kb := build_word0
  have hMark := Lib.hid trivial
  have e1 : ¬ (k : Int) < 0 := by omega
  have e2 : ¬ (200 : Int) < (k : Int) := by omega
  have e3 : ¬ (m : Int) < 0 := by omega
  have e4 : ¬ (3 : Int) < (m : Int) := by omega
  have d64 : ¬ (64 : Int) < (k : Int) := by omega
  subst hm
  rw [show ((3 : Nat) : Int) = 3 from rfl]
  clear e3 e4
  go_enter Tryz.func4, Tryz.ntmps4
  go_wp2_with (first
    | (go_at_call 5; go_must (refine (alive_any _).mono ?_; rintro e w1 ⟨rfl, hT⟩; replace hS := hS.call hT; clear hT))
    | (go_at_call 6; go_must (refine (newStore_none _).mono ?_; rintro e w1 ⟨⟨sb, rfl⟩, hT⟩; replace hS := hS.call hT; clear hT))
    | (go_at_call 15; go_must (refine (open_zero _ _).mono ?_; rintro e w2 ⟨bt, rfl, hT, hb, hB⟩; replace hS := hS.callNew' hT hb hB; clear hT hb hB))
    | (refine st_makeZ 3 hS rfl _ _ rfl rfl rfl (by omega) ?_; clear hS; intro w4 bv hS hrv hTv; clear hTv)
    | (refine st_makeZ 1048577 hS rfl _ _ rfl rfl rfl (by omega) ?_; clear hS hrv; intro w5 bv hS hrv hTv; clear hTv)
    | (have _t := hMark; clear _t hMark; refine st_makeZ k hS rfl _ _ rfl rfl rfl (by omega) ?_; clear hS; intro w6 bk hS hrk hTk; replace hrv := hrv.tch hTk (by simp); clear hTk)
    | (go_at_call 16; go_must (refine (put_long _ _ _ (zs k) (zs 1048577) _ hrk hrv (by rw [zs_len, zs_len]; omega)).mono ?_; rintro e w7 ⟨rfl, rfl⟩; have hMark2 := Lib.hid trivial; clear hrk hrv))
    | (have _t := hMark2; clear _t hMark2; refine st_makeZ k hS rfl _ _ rfl rfl rfl (by omega) ?_; clear hS; intro w8 bk hS hrk hTk; clear hTk)
    | (go_at_call 17; go_must (refine (get_of _ _ (zs k) [] _ hrk (by rw [zs_len]; omega) (by simp) (fun w1 p1 c1 hT1 hq => (find_nil bt _ _ _ _ w1 (hT1.blk (hS.get .head) (by simp))).mono (fun e w' h => ⟨none, 0, h.1, h.2, RdB.nil w'⟩))).mono ?_; rintro e w9 ⟨hT, gp, gc, rfl, hg⟩; replace hS := hS.call hT; clear hT hg))
    | (go_at_call 18; go_must (refine (num_any _ _).mono ?_; rintro e w9 ⟨rfl, hT⟩; replace hS := hS.call hT; clear hT)))
  go_ret
  exact ⟨rfl, hS.frame⟩
set_option maxHeartbeats 4000000 in
set_option maxRecDepth 100000 in
theorem w_bothlong (k m : Nat) (w : World) (hk : 64 < k) (hk2 : k ≤ 200) (hm : m = 3) : Calls Tryz.prog 4 #[.int .i64 (k : Int), .int .i64 (m : Int)] w fun e w' => e = .returned (.bool true) ∧ Tch [] w w' := by
  have hS := St.start w
  have kb := build_word0
  have hMark := Lib.hid trivial
  have e1 : ¬ (k : Int) < 0 := by omega
  have e2 : ¬ (200 : Int) < (k : Int) := by omega
  have e3 : ¬ (m : Int) < 0 := by omega
  have e4 : ¬ (3 : Int) < (m : Int) := by omega
  have d64 : (64 : Int) < (k : Int) := by omega
  subst hm
  rw [show ((3 : Nat) : Int) = 3 from rfl]
  clear e3 e4
  go_enter Tryz.func4, Tryz.ntmps4
  go_wp2_with (first
    | (go_at_call 5; go_must (refine (alive_any _).mono ?_; rintro e w1 ⟨rfl, hT⟩; replace hS := hS.call hT; clear hT))
    | (go_at_call 6; go_must (refine (newStore_none _).mono ?_; rintro e w1 ⟨⟨sb, rfl⟩, hT⟩; replace hS := hS.call hT; clear hT))
    | (go_at_call 15; go_must (refine (open_zero _ _).mono ?_; rintro e w2 ⟨bt, rfl, hT, hb, hB⟩; replace hS := hS.callNew' hT hb hB; clear hT hb hB))
    | (refine st_makeZ 3 hS rfl _ _ rfl rfl rfl (by omega) ?_; clear hS; intro w4 bv hS hrv hTv; clear hTv)
    | (refine st_makeZ 1048577 hS rfl _ _ rfl rfl rfl (by omega) ?_; clear hS hrv; intro w5 bv hS hrv hTv; clear hTv)
    | (have _t := hMark; clear _t hMark; refine st_makeZ k hS rfl _ _ rfl rfl rfl (by omega) ?_; clear hS; intro w6 bk hS hrk hTk; replace hrv := hrv.tch hTk (by simp); clear hTk)
    | (go_at_call 16; go_must (refine (put_long _ _ _ (zs k) (zs 1048577) _ hrk hrv (by rw [zs_len, zs_len]; omega)).mono ?_; rintro e w7 ⟨rfl, rfl⟩; have hMark2 := Lib.hid trivial; clear hrk hrv))
    | (have _t := hMark2; clear _t hMark2; refine st_makeZ k hS rfl _ _ rfl rfl rfl (by omega) ?_; clear hS; intro w8 bk hS hrk hTk; clear hTk)
    | (go_at_call 17; go_must (refine (get_long _ _ (zs k) _ hrk (by rw [zs_len]; omega)).mono ?_; rintro e w9 ⟨rfl, rfl⟩))
    | (go_at_call 18; go_must (refine (num_any _ _).mono ?_; rintro e w9 ⟨rfl, hT⟩; replace hS := hS.call hT; clear hT)))
  go_ret
  exact ⟨rfl, hS.frame⟩
set_option maxHeartbeats 1000000 in
theorem w_out (k m : Int) (w : World) (h : k < 0 ∨ 200 < k ∨ m < 0 ∨ 3 < m) : Calls Tryz.prog 4 #[.int .i64 k, .int .i64 m] w fun e w' => e = .returned (.bool true) ∧ Tch [] w w' := by
  by_cases h1 : k < 0
  · clear h
    go_enter Tryz.func4, Tryz.ntmps4
    go_wp2_with (go_at_call 5; go_must (refine (alive_any _).mono ?_; rintro e w1 ⟨rfl, hT⟩))
    go_ret
    exact ⟨rfl, hT⟩
  by_cases h2 : 200 < k
  · clear h
    go_enter Tryz.func4, Tryz.ntmps4
    go_wp2_with (go_at_call 5; go_must (refine (alive_any _).mono ?_; rintro e w1 ⟨rfl, hT⟩))
    go_ret
    exact ⟨rfl, hT⟩
  by_cases h3 : m < 0
  · clear h
    go_enter Tryz.func4, Tryz.ntmps4
    go_wp2_with (go_at_call 5; go_must (refine (alive_any _).mono ?_; rintro e w1 ⟨rfl, hT⟩))
    go_ret
    exact ⟨rfl, hT⟩
  have h4 : 3 < m := by omega
  clear h
  go_enter Tryz.func4, Tryz.ntmps4
  go_wp2_with (go_at_call 5; go_must (refine (alive_any _).mono ?_; rintro e w1 ⟨rfl, hT⟩))
  go_ret
  exact ⟨rfl, hT⟩
theorem walk (k m : Int) (h1 : (Lit.int .i64 k).wf) (h2 : (Lit.int .i64 m).wf) (w : World) : Calls Tryz.prog 4 #[.int .i64 k, .int .i64 m] w fun e w' => e = .returned (.bool true) ∧ Tch [] w w' := by
  by_cases h : k < 0 ∨ 200 < k ∨ m < 0 ∨ 3 < m
  · exact w_out k m w h
  obtain ⟨a, rfl⟩ : ∃ a : Nat, k = a := ⟨k.toNat, by omega⟩
  obtain ⟨b, rfl⟩ : ∃ b : Nat, m = b := ⟨m.toNat, by omega⟩
  by_cases hk : a ≤ 64
  · by_cases h3 : b = 3
    · exact w_vallong a b w hk h3
    · by_cases h0 : b = 0
      · exact w_none a b w hk h0
      · exact w_new a b w hk (by omega) (by omega)
  · by_cases h3 : b = 3
    · exact w_bothlong a b w (by omega) (by omega) h3
    · exact w_keylong a b w (by omega) (by omega) (by omega)
end Go.Proofs.YthchmnhoombecaaGreat.NLong
