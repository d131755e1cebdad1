/- KeccakTurned: the walk. -/
import Derived.Test.YtaofhbnnldkegaaK20
namespace Go.Proofs.Ytaofhbnnldkegaa
open Go.RowKit

theorem own_cur2 {w : World} {B : Nat} {v : Value} {M : List Nat} (h : w.ownsRow B 5 1 v M.length (nb M)) (hM : M ≠ []) : ∃ g c cur, v = .slice (some ⟨g, 0, none⟩) M.length c ∧ B ≤ g ∧ Blk w g 5 cur ∧ Cur M cur ∧ M.length ≤ c := by
  obtain ⟨g, c, cur, rfl, h1, h2, h3⟩ := own_cur h hM
  refine ⟨g, c, cur, rfl, h1, h2, h3, ?_⟩
  obtain ⟨_, h5⟩ := h
  rcases h5 with ⟨h6, _⟩ | ⟨g', cap, cur', h6, _, _, hn, _⟩
  · cases h6
  · cases h6; exact hn
theorem Cur.rd {w : World} {g cc : Nat} {t : TypeId} {M : List Nat} {cur : Array Value} (hB : Blk w g t cur) (h : Cur M cur) (hl : ∀ x ∈ M, x < 256) {n : Nat} (hn : n = M.length) (hc : n ≤ cc) : RdB w (.slice (some ⟨g, 0, none⟩) n cc) M := by
  subst hn
  exact ⟨_, _, rfl, hc, hl, fun _ => ⟨g, 0, rfl, hB.lt, fun i hi => by rw [Nat.zero_add]; exact hB.cell (h.2 i hi)⟩⟩
theorem byte_xor : ∀ a b : Fin 256, bits BinOp.xor IntKind.u8 (a.val : Int) (b.val : Int) = ((a.val ^^^ b.val : Nat) : Int) ∧ a.val ^^^ b.val < 256 := by
  intro a b
  have hlt : a.val ^^^ b.val < 256 := Nat.xor_lt_two_pow (n := 8) a.isLt b.isLt
  refine ⟨?_, hlt⟩
  have ha : ((a.val : Int) % 2 ^ IntKind.u8.bits).toNat = a.val := by
    have := a.isLt
    simp [IntKind.bits]; omega
  have hb : ((b.val : Int) % 2 ^ IntKind.u8.bits).toNat = b.val := by
    have := b.isLt
    simp [IntKind.bits]; omega
  show IntKind.u8.wrap (((((a.val : Int) % 2 ^ IntKind.u8.bits).toNat ^^^ ((b.val : Int) % 2 ^ IntKind.u8.bits).toNat : Nat) : Int)) = _
  rw [ha, hb, IntKind.wrap_u8]
  omega
set_option maxHeartbeats 4000000 in
set_option maxRecDepth 100000 in
theorem turned_none (p : Option Addr) (n c : Nat) (at_ by_ : Int) (w : World) (h : n < 1) :
    Calls Try.prog 5 #[.slice p n c, .int .i64 at_, .int .u8 by_] w fun e w' => e = .returned (.bool true) ∧ Tch [] w w' := by
  go_enter Try.func5, Try.ntmps5
  go_upto_region 2 with (go_at_call 6; refine (alive_any _).mono ?_; rintro e w1 ⟨rfl, hT1⟩)
  refine k_seq (C := fun w' => Tch [] w1 w') (Tch.refl _ _) ?_
  refine k_boolm rfl _ rfl rfl ?_; try simp only [Act.put, List.setIfInBounds_toArray, List.set_cons_zero, List.set_cons_succ]
  refine k_not rfl _ _ rfl rfl ?_; try simp only [Act.put, List.setIfInBounds_toArray, List.set_cons_zero, List.set_cons_succ]
  refine k_boolm rfl _ rfl rfl ?_; try simp only [Act.put, List.setIfInBounds_toArray, List.set_cons_zero, List.set_cons_succ]
  refine k_slice rfl _ rfl rfl ?_; try simp only [Act.put, List.setIfInBounds_toArray, List.set_cons_zero, List.set_cons_succ]
  refine k_lenSl rfl _ rfl rfl ?_; try simp only [Act.put, List.setIfInBounds_toArray, List.set_cons_zero, List.set_cons_succ]
  refine k_lss rfl _ _ _ rfl rfl rfl (decide_eq_true (by omega)) ?_; try simp only [Act.put, List.setIfInBounds_toArray, List.set_cons_zero, List.set_cons_succ]
  refine k_pickF rfl _ _ _ rfl rfl rfl ?_; try simp only [Act.put, List.setIfInBounds_toArray, List.set_cons_zero, List.set_cons_succ]
  refine k_boolm rfl _ rfl rfl ?_; try simp only [Act.put, List.setIfInBounds_toArray, List.set_cons_zero, List.set_cons_succ]
  refine k_skipU rfl ?_; try simp only [Act.put, List.setIfInBounds_toArray, List.set_cons_zero, List.set_cons_succ]
  refine k_skipU rfl ?_; try simp only [Act.put, List.setIfInBounds_toArray, List.set_cons_zero, List.set_cons_succ]
  refine k_skipU rfl ?_; try simp only [Act.put, List.setIfInBounds_toArray, List.set_cons_zero, List.set_cons_succ]
  refine k_pickT rfl _ _ _ rfl rfl rfl ?_; try simp only [Act.put, List.setIfInBounds_toArray, List.set_cons_zero, List.set_cons_succ]
  refine k_boolm rfl _ rfl rfl ?_; try simp only [Act.put, List.setIfInBounds_toArray, List.set_cons_zero, List.set_cons_succ]
  refine k_skipU rfl ?_; try simp only [Act.put, List.setIfInBounds_toArray, List.set_cons_zero, List.set_cons_succ]
  refine k_skipU rfl ?_; try simp only [Act.put, List.setIfInBounds_toArray, List.set_cons_zero, List.set_cons_succ]
  refine k_pickT rfl _ _ _ rfl rfl rfl ?_; try simp only [Act.put, List.setIfInBounds_toArray, List.set_cons_zero, List.set_cons_succ]
  refine k_boolm rfl _ rfl rfl ?_; try simp only [Act.put, List.setIfInBounds_toArray, List.set_cons_zero, List.set_cons_succ]
  refine k_skipU rfl ?_; try simp only [Act.put, List.setIfInBounds_toArray, List.set_cons_zero, List.set_cons_succ]
  refine k_skipU rfl ?_; try simp only [Act.put, List.setIfInBounds_toArray, List.set_cons_zero, List.set_cons_succ]
  refine k_pickT rfl _ _ _ rfl rfl rfl ?_; try simp only [Act.put, List.setIfInBounds_toArray, List.set_cons_zero, List.set_cons_succ]
  refine k_end ?_
  intro w2 hT2
  go_wp2
  go_ret
  exact ⟨rfl, hT1.trans hT2⟩
set_option maxHeartbeats 4000000 in
set_option maxRecDepth 100000 in
theorem turned_long (p : Option Addr) (n c : Nat) (at_ by_ : Int) (w : World) (h : 1000 < n) :
    Calls Try.prog 5 #[.slice p n c, .int .i64 at_, .int .u8 by_] w fun e w' => e = .returned (.bool true) ∧ Tch [] w w' := by
  go_enter Try.func5, Try.ntmps5
  go_upto_region 2 with (go_at_call 6; refine (alive_any _).mono ?_; rintro e w1 ⟨rfl, hT1⟩)
  refine k_seq (C := fun w' => Tch [] w1 w') (Tch.refl _ _) ?_
  refine k_boolm rfl _ rfl rfl ?_; try simp only [Act.put, List.setIfInBounds_toArray, List.set_cons_zero, List.set_cons_succ]
  refine k_not rfl _ _ rfl rfl ?_; try simp only [Act.put, List.setIfInBounds_toArray, List.set_cons_zero, List.set_cons_succ]
  refine k_boolm rfl _ rfl rfl ?_; try simp only [Act.put, List.setIfInBounds_toArray, List.set_cons_zero, List.set_cons_succ]
  refine k_slice rfl _ rfl rfl ?_; try simp only [Act.put, List.setIfInBounds_toArray, List.set_cons_zero, List.set_cons_succ]
  refine k_lenSl rfl _ rfl rfl ?_; try simp only [Act.put, List.setIfInBounds_toArray, List.set_cons_zero, List.set_cons_succ]
  refine k_lss rfl _ _ _ rfl rfl rfl (decide_eq_false (by omega)) ?_; try simp only [Act.put, List.setIfInBounds_toArray, List.set_cons_zero, List.set_cons_succ]
  refine k_pickF rfl _ _ _ rfl rfl rfl ?_; try simp only [Act.put, List.setIfInBounds_toArray, List.set_cons_zero, List.set_cons_succ]
  refine k_boolm rfl _ rfl rfl ?_; try simp only [Act.put, List.setIfInBounds_toArray, List.set_cons_zero, List.set_cons_succ]
  refine k_slice rfl _ rfl rfl ?_; try simp only [Act.put, List.setIfInBounds_toArray, List.set_cons_zero, List.set_cons_succ]
  refine k_lenSl rfl _ rfl rfl ?_; try simp only [Act.put, List.setIfInBounds_toArray, List.set_cons_zero, List.set_cons_succ]
  refine k_gtr rfl _ _ _ rfl rfl rfl (decide_eq_true (by omega)) ?_; try simp only [Act.put, List.setIfInBounds_toArray, List.set_cons_zero, List.set_cons_succ]
  refine k_pickF rfl _ _ _ rfl rfl rfl ?_; try simp only [Act.put, List.setIfInBounds_toArray, List.set_cons_zero, List.set_cons_succ]
  refine k_boolm rfl _ rfl rfl ?_; try simp only [Act.put, List.setIfInBounds_toArray, List.set_cons_zero, List.set_cons_succ]
  refine k_skipU rfl ?_; try simp only [Act.put, List.setIfInBounds_toArray, List.set_cons_zero, List.set_cons_succ]
  refine k_skipU rfl ?_; try simp only [Act.put, List.setIfInBounds_toArray, List.set_cons_zero, List.set_cons_succ]
  refine k_pickT rfl _ _ _ rfl rfl rfl ?_; try simp only [Act.put, List.setIfInBounds_toArray, List.set_cons_zero, List.set_cons_succ]
  refine k_boolm rfl _ rfl rfl ?_; try simp only [Act.put, List.setIfInBounds_toArray, List.set_cons_zero, List.set_cons_succ]
  refine k_skipU rfl ?_; try simp only [Act.put, List.setIfInBounds_toArray, List.set_cons_zero, List.set_cons_succ]
  refine k_skipU rfl ?_; try simp only [Act.put, List.setIfInBounds_toArray, List.set_cons_zero, List.set_cons_succ]
  refine k_pickT rfl _ _ _ rfl rfl rfl ?_; try simp only [Act.put, List.setIfInBounds_toArray, List.set_cons_zero, List.set_cons_succ]
  refine k_end ?_
  intro w2 hT2
  go_wp2
  go_ret
  exact ⟨rfl, hT1.trans hT2⟩
set_option maxHeartbeats 4000000 in
set_option maxRecDepth 100000 in
theorem turned_neg (p : Option Addr) (n c : Nat) (at_ by_ : Int) (w : World) (h1 : 1 ≤ n) (h2 : n ≤ 1000) (h : at_ < 0) :
    Calls Try.prog 5 #[.slice p n c, .int .i64 at_, .int .u8 by_] w fun e w' => e = .returned (.bool true) ∧ Tch [] w w' := by
  go_enter Try.func5, Try.ntmps5
  go_upto_region 2 with (go_at_call 6; refine (alive_any _).mono ?_; rintro e w1 ⟨rfl, hT1⟩)
  refine k_seq (C := fun w' => Tch [] w1 w') (Tch.refl _ _) ?_
  refine k_boolm rfl _ rfl rfl ?_; try simp only [Act.put, List.setIfInBounds_toArray, List.set_cons_zero, List.set_cons_succ]
  refine k_not rfl _ _ rfl rfl ?_; try simp only [Act.put, List.setIfInBounds_toArray, List.set_cons_zero, List.set_cons_succ]
  refine k_boolm rfl _ rfl rfl ?_; try simp only [Act.put, List.setIfInBounds_toArray, List.set_cons_zero, List.set_cons_succ]
  refine k_slice rfl _ rfl rfl ?_; try simp only [Act.put, List.setIfInBounds_toArray, List.set_cons_zero, List.set_cons_succ]
  refine k_lenSl rfl _ rfl rfl ?_; try simp only [Act.put, List.setIfInBounds_toArray, List.set_cons_zero, List.set_cons_succ]
  refine k_lss rfl _ _ _ rfl rfl rfl (decide_eq_false (by omega)) ?_; try simp only [Act.put, List.setIfInBounds_toArray, List.set_cons_zero, List.set_cons_succ]
  refine k_pickF rfl _ _ _ rfl rfl rfl ?_; try simp only [Act.put, List.setIfInBounds_toArray, List.set_cons_zero, List.set_cons_succ]
  refine k_boolm rfl _ rfl rfl ?_; try simp only [Act.put, List.setIfInBounds_toArray, List.set_cons_zero, List.set_cons_succ]
  refine k_slice rfl _ rfl rfl ?_; try simp only [Act.put, List.setIfInBounds_toArray, List.set_cons_zero, List.set_cons_succ]
  refine k_lenSl rfl _ rfl rfl ?_; try simp only [Act.put, List.setIfInBounds_toArray, List.set_cons_zero, List.set_cons_succ]
  refine k_gtr rfl _ _ _ rfl rfl rfl (decide_eq_false (by omega)) ?_; try simp only [Act.put, List.setIfInBounds_toArray, List.set_cons_zero, List.set_cons_succ]
  refine k_pickF rfl _ _ _ rfl rfl rfl ?_; try simp only [Act.put, List.setIfInBounds_toArray, List.set_cons_zero, List.set_cons_succ]
  refine k_boolm rfl _ rfl rfl ?_; try simp only [Act.put, List.setIfInBounds_toArray, List.set_cons_zero, List.set_cons_succ]
  refine k_intm rfl _ rfl rfl ?_; try simp only [Act.put, List.setIfInBounds_toArray, List.set_cons_zero, List.set_cons_succ]
  refine k_lss rfl _ _ _ rfl rfl rfl (decide_eq_true (by omega)) ?_; try simp only [Act.put, List.setIfInBounds_toArray, List.set_cons_zero, List.set_cons_succ]
  refine k_pickF rfl _ _ _ rfl rfl rfl ?_; try simp only [Act.put, List.setIfInBounds_toArray, List.set_cons_zero, List.set_cons_succ]
  refine k_boolm rfl _ rfl rfl ?_; try simp only [Act.put, List.setIfInBounds_toArray, List.set_cons_zero, List.set_cons_succ]
  refine k_skipU rfl ?_; try simp only [Act.put, List.setIfInBounds_toArray, List.set_cons_zero, List.set_cons_succ]
  refine k_skipU rfl ?_; try simp only [Act.put, List.setIfInBounds_toArray, List.set_cons_zero, List.set_cons_succ]
  refine k_pickT rfl _ _ _ rfl rfl rfl ?_; try simp only [Act.put, List.setIfInBounds_toArray, List.set_cons_zero, List.set_cons_succ]
  refine k_end ?_
  intro w2 hT2
  go_wp2
  go_ret
  exact ⟨rfl, hT1.trans hT2⟩
set_option maxHeartbeats 4000000 in
set_option maxRecDepth 100000 in
theorem turned_same (p : Option Addr) (n c : Nat) (at_ by_ : Int) (w : World) (h1 : 1 ≤ n) (h2 : n ≤ 1000) (h3 : 0 ≤ at_) (h : by_ = 0) :
    Calls Try.prog 5 #[.slice p n c, .int .i64 at_, .int .u8 0] w fun e w' => e = .returned (.bool true) ∧ Tch [] w w' := by
  go_enter Try.func5, Try.ntmps5
  go_upto_region 2 with (go_at_call 6; refine (alive_any _).mono ?_; rintro e w1 ⟨rfl, hT1⟩)
  refine k_seq (C := fun w' => Tch [] w1 w') (Tch.refl _ _) ?_
  refine k_boolm rfl _ rfl rfl ?_; try simp only [Act.put, List.setIfInBounds_toArray, List.set_cons_zero, List.set_cons_succ]
  refine k_not rfl _ _ rfl rfl ?_; try simp only [Act.put, List.setIfInBounds_toArray, List.set_cons_zero, List.set_cons_succ]
  refine k_boolm rfl _ rfl rfl ?_; try simp only [Act.put, List.setIfInBounds_toArray, List.set_cons_zero, List.set_cons_succ]
  refine k_slice rfl _ rfl rfl ?_; try simp only [Act.put, List.setIfInBounds_toArray, List.set_cons_zero, List.set_cons_succ]
  refine k_lenSl rfl _ rfl rfl ?_; try simp only [Act.put, List.setIfInBounds_toArray, List.set_cons_zero, List.set_cons_succ]
  refine k_lss rfl _ _ _ rfl rfl rfl (decide_eq_false (by omega)) ?_; try simp only [Act.put, List.setIfInBounds_toArray, List.set_cons_zero, List.set_cons_succ]
  refine k_pickF rfl _ _ _ rfl rfl rfl ?_; try simp only [Act.put, List.setIfInBounds_toArray, List.set_cons_zero, List.set_cons_succ]
  refine k_boolm rfl _ rfl rfl ?_; try simp only [Act.put, List.setIfInBounds_toArray, List.set_cons_zero, List.set_cons_succ]
  refine k_slice rfl _ rfl rfl ?_; try simp only [Act.put, List.setIfInBounds_toArray, List.set_cons_zero, List.set_cons_succ]
  refine k_lenSl rfl _ rfl rfl ?_; try simp only [Act.put, List.setIfInBounds_toArray, List.set_cons_zero, List.set_cons_succ]
  refine k_gtr rfl _ _ _ rfl rfl rfl (decide_eq_false (by omega)) ?_; try simp only [Act.put, List.setIfInBounds_toArray, List.set_cons_zero, List.set_cons_succ]
  refine k_pickF rfl _ _ _ rfl rfl rfl ?_; try simp only [Act.put, List.setIfInBounds_toArray, List.set_cons_zero, List.set_cons_succ]
  refine k_boolm rfl _ rfl rfl ?_; try simp only [Act.put, List.setIfInBounds_toArray, List.set_cons_zero, List.set_cons_succ]
  refine k_intm rfl _ rfl rfl ?_; try simp only [Act.put, List.setIfInBounds_toArray, List.set_cons_zero, List.set_cons_succ]
  refine k_lss rfl _ _ _ rfl rfl rfl (decide_eq_false (by omega)) ?_; try simp only [Act.put, List.setIfInBounds_toArray, List.set_cons_zero, List.set_cons_succ]
  refine k_pickF rfl _ _ _ rfl rfl rfl ?_; try simp only [Act.put, List.setIfInBounds_toArray, List.set_cons_zero, List.set_cons_succ]
  refine k_boolm rfl _ rfl rfl ?_; try simp only [Act.put, List.setIfInBounds_toArray, List.set_cons_zero, List.set_cons_succ]
  refine k_intm rfl _ rfl rfl ?_; try simp only [Act.put, List.setIfInBounds_toArray, List.set_cons_zero, List.set_cons_succ]
  refine k_u8 rfl _ _ _ rfl rfl rfl (beq_self_eq_true _) ?_; try simp only [Act.put, List.setIfInBounds_toArray, List.set_cons_zero, List.set_cons_succ]
  refine k_pickF rfl _ _ _ rfl rfl rfl ?_; try simp only [Act.put, List.setIfInBounds_toArray, List.set_cons_zero, List.set_cons_succ]
  refine k_end ?_
  intro w2 hT2
  go_wp2
  go_ret
  exact ⟨rfl, hT1.trans hT2⟩
set_option maxHeartbeats 40000000 in
set_option maxRecDepth 100000 in
theorem turned_main (p : Option Addr) (n c : Nat) (at_ by_ : Nat) (L : List Nat) (w : World) (hv : RdA [] w (.slice p n c) L) (h1 : 1 ≤ n) (h2 : n ≤ 1000) (hat : at_ ≤ 9223372036854775807) (hby : by_ < 256) (hb0 : by_ ≠ 0) :
    Calls Try.prog 5 #[.slice p n c, .int .i64 (at_ : Int), .int .u8 (by_ : Int)] w fun e w' => e = .returned (.bool true) ∧ Tch [] w w' := by
  have hlen := hv.len
  have hcap := hv.cap
  obtain ⟨p2, c2, hsf, _, hdr⟩ := slice_from p n c (at_ % n) (Nat.le_of_lt (Nat.mod_lt _ (by omega))) hcap
  have HSF := Lib.hid hsf
  have HV := Lib.hid (fun (w' : World) (h : Tch [] w w') => (hv.tch h).rdB)
  have HT := Lib.hid (fun (w' : World) (h : Tch [] w w') => ((hv.tch h).take (k := at_ % n) (Nat.le_of_lt (Nat.mod_lt _ (by omega)))).rdB)
  have HD := Lib.hid (fun (w' : World) (h : Tch [] w w') => (hdr [] w' L (hv.tch h)).rdB)
  have HLT := Lib.hid hv.lt
  have HLen := Lib.hid hlen
  have HCap := Lib.hid hcap
  have g1 : ¬ (n : Int) < 1 := by omega
  have g2 : ¬ (1000 : Int) < (n : Int) := by omega
  have g3 : ¬ (at_ : Int) < 0 := by omega
  have g4 : (by_ : Int) ≠ 0 := by omega
  clear hsf hdr hv hlen hcap
  go_enter Try.func5, Try.ntmps5
  go_upto_region 2 with (go_at_call 6; refine (alive_any _).mono ?_; rintro e w1 ⟨rfl, hT1⟩)
  refine k_seq (C := fun w' => Tch [] w1 w') (Tch.refl _ _) ?_
  refine k_boolm rfl _ rfl rfl ?_; try simp only [Act.put, List.setIfInBounds_toArray, List.set_cons_zero, List.set_cons_succ]
  refine k_not rfl _ _ rfl rfl ?_; try simp only [Act.put, List.setIfInBounds_toArray, List.set_cons_zero, List.set_cons_succ]
  refine k_boolm rfl _ rfl rfl ?_; try simp only [Act.put, List.setIfInBounds_toArray, List.set_cons_zero, List.set_cons_succ]
  refine k_slice rfl _ rfl rfl ?_; try simp only [Act.put, List.setIfInBounds_toArray, List.set_cons_zero, List.set_cons_succ]
  refine k_lenSl rfl _ rfl rfl ?_; try simp only [Act.put, List.setIfInBounds_toArray, List.set_cons_zero, List.set_cons_succ]
  refine k_lss rfl _ _ _ rfl rfl rfl (decide_eq_false (by omega)) ?_; try simp only [Act.put, List.setIfInBounds_toArray, List.set_cons_zero, List.set_cons_succ]
  refine k_pickF rfl _ _ _ rfl rfl rfl ?_; try simp only [Act.put, List.setIfInBounds_toArray, List.set_cons_zero, List.set_cons_succ]
  refine k_boolm rfl _ rfl rfl ?_; try simp only [Act.put, List.setIfInBounds_toArray, List.set_cons_zero, List.set_cons_succ]
  refine k_slice rfl _ rfl rfl ?_; try simp only [Act.put, List.setIfInBounds_toArray, List.set_cons_zero, List.set_cons_succ]
  refine k_lenSl rfl _ rfl rfl ?_; try simp only [Act.put, List.setIfInBounds_toArray, List.set_cons_zero, List.set_cons_succ]
  refine k_gtr rfl _ _ _ rfl rfl rfl (decide_eq_false (by omega)) ?_; try simp only [Act.put, List.setIfInBounds_toArray, List.set_cons_zero, List.set_cons_succ]
  refine k_pickF rfl _ _ _ rfl rfl rfl ?_; try simp only [Act.put, List.setIfInBounds_toArray, List.set_cons_zero, List.set_cons_succ]
  refine k_boolm rfl _ rfl rfl ?_; try simp only [Act.put, List.setIfInBounds_toArray, List.set_cons_zero, List.set_cons_succ]
  refine k_intm rfl _ rfl rfl ?_; try simp only [Act.put, List.setIfInBounds_toArray, List.set_cons_zero, List.set_cons_succ]
  refine k_lss rfl _ _ _ rfl rfl rfl (decide_eq_false (by omega)) ?_; try simp only [Act.put, List.setIfInBounds_toArray, List.set_cons_zero, List.set_cons_succ]
  refine k_pickF rfl _ _ _ rfl rfl rfl ?_; try simp only [Act.put, List.setIfInBounds_toArray, List.set_cons_zero, List.set_cons_succ]
  refine k_boolm rfl _ rfl rfl ?_; try simp only [Act.put, List.setIfInBounds_toArray, List.set_cons_zero, List.set_cons_succ]
  refine k_intm rfl _ rfl rfl ?_; try simp only [Act.put, List.setIfInBounds_toArray, List.set_cons_zero, List.set_cons_succ]
  refine k_u8 rfl _ _ _ rfl rfl rfl (beq_eq_false_iff_ne.2 (by omega)) ?_; try simp only [Act.put, List.setIfInBounds_toArray, List.set_cons_zero, List.set_cons_succ]
  refine k_pickF rfl _ _ _ rfl rfl rfl ?_; try simp only [Act.put, List.setIfInBounds_toArray, List.set_cons_zero, List.set_cons_succ]
  refine k_end ?_
  intro w2 hT2
  have T2 := hT1.trans hT2
  clear hT1 hT2 g1 g2 g3 g4
  have t1 : (at_ : Int).tmod (n : Int) = ((at_ % n : Nat) : Int) := by rw [Int.tmod_eq_emod_of_nonneg (by omega)]; omega
  have t2 : IntKind.i64.wrap ((at_ % n : Nat) : Int) = ((at_ % n : Nat) : Int) := IntWalk.i64_in _ (by have := Nat.mod_lt at_ (show 0 < n by omega); omega)
  have t0 : ¬ (n : Int) = 0 := by omega
  have hk := Nat.mod_lt at_ (show 0 < n by omega)
  go_upto_region 5 with (fail)
  rw [← Int.natCast_emod at_ n]
  generalize at_ % n = k at *
  clear t1 t2 t0
  have hg : k < L.length := by have := HLen.out; omega
  have hx := getD_lt HLT.out k
  obtain ⟨hxb, hxl⟩ := byte_xor ⟨L.getD k 0, hx⟩ ⟨by_, hby⟩
  simp only at hxb hxl
  go_upto_region 6 with (at_builtin; (refine st_appB (w0 := w2) (w := w2) (v := .slice none 0 0) (u := .slice p n c) (l := []) (m := L) (ty := 5) rfl _ _ rfl rfl rfl (own_nil _ _) (Tch.refl _ _) (HV.out _ T2) (by have := HLen.out; simp; omega) ?_; intro v3 w3 hown3 hT3))
  rw [List.nil_append] at hown3
  obtain ⟨g, cc, cur, rfl, hgg, hB, hcur, hcc⟩ := own_cur2 hown3 (by intro e; rw [e] at hg; simp at hg)
  have hS := ((St.start w).call T2).callNew hT3 hB hgg
  have hcell := hcur.2 k hg
  have hsz : k < cur.size := by have := hcur.1; omega
  have hcs := Cur.set (x := L.getD k 0 ^^^ by_) hcur hg
  obtain ⟨L2, hL2⟩ : ∃ L2, L2 = L.set k (L.getD k 0 ^^^ by_) := ⟨_, rfl⟩
  have hL2n : L2.length = n := by rw [hL2, List.length_set]; exact HLen.out.symm
  have hL2l : ∀ x ∈ L2, x < 256 := by
    intro x hx'
    rw [hL2] at hx'
    rcases List.mem_or_eq_of_mem_set hx' with h | h
    · exact HLT.out x h
    · rw [h]; exact hxl
  rw [← hL2] at hcs
  rw [← HLen.out] at hcc
  have e5 : L.length = n := HLen.out.symm
  rw [e5]
  generalize L.getD k 0 = x at *
  have HX := Lib.hid (And.intro hxb (And.intro hcs (And.intro hL2n (And.intro hL2l (And.intro hcc (And.intro h2 hk))))))
  clear hxb hcs hL2n hL2l hcc hL2 hcur hown3 hB hT3 T2 hgg hx hxl e5 hg h1 h2 hby hb0 hat
  go_upto_region 7 with (first
    | (refine st_cell (b := g) (j := k) hS rfl 5 _ rfl rfl .head hcell u8_agg ?_)
    | (refine st_store1 (b := g) (j := k) hS rfl 5 _ _ rfl rfl rfl u8_size (by repeat (first | exact Upd.head | apply Upd.tail)) hsz ?_; clear hS; intro w4 hS))
  rw [HX.out.1] at hS
  clear hcell hsz
  go_upto_region 8 with (first
    | (go_at_call 8; go_must (refine (sum_new _ L w4 (HV.out _ hS.frame) (by have := HLen.out; have := HX.out; omega)).mono ?_; rintro e w5 ⟨rfl, hT5⟩; replace hS := hS.call hT5; clear hT5))
    | (refine st_new hS rfl 26 rfl word_zero ?_; clear hS; intro w6 b10 hS)
    | (refine st_store (b := b10) (c' := wf (hashN L)) hS rfl 26 _ _ rfl rfl rfl .head word_size (wf_size _) (wf_size _) (wf_one _) ?_; clear hS; intro w7 hS))
  try simp only [Act.put, List.setIfInBounds_toArray, List.set_cons_zero, List.set_cons_succ]
  have hb10 := hS.get .head
  have hbg := hS.get (.tail .head)
  have hfr := hS.frame
  have KH := Lib.hid (fun (w' : World) (h : Tch [] w7 w') => h.blk hb10 (by simp))
  have KB := Lib.hid (fun (w' : World) (h : Tch [] w7 w') => HV.out w' (hfr.trans h))
  have KT := Lib.hid (fun (w' : World) (h : Tch [] w7 w') => HT.out w' (hfr.trans h))
  have KD := Lib.hid (fun (w' : World) (h : Tch [] w7 w') => HD.out w' (hfr.trans h))
  have KC := Lib.hid (fun (w' : World) (h : Tch [] w7 w') => Cur.rd (h.blk hbg (by simp)) HX.out.2.1 HX.out.2.2.2.1 HX.out.2.2.1.symm HX.out.2.2.2.2.1)
  have HF := Lib.hid hfr
  have HN := Lib.hid (show L.length ≤ 1000000 ∧ L2.length < 1000000 ∧ L2.length ≤ 1000000 ∧ k ≤ n ∧ n ≤ c ∧ (L.take k).length < 1000000 ∧ (L.take k).length ≤ 1000000 ∧ (L.drop k).length < 1000000 ∧ L.length < 1000000 by
    have := HLen.out
    have := HX.out.2.2.1
    have := HX.out.2.2.2.2.2.1
    have := HX.out.2.2.2.2.2.2
    have := HCap.out
    simp only [List.length_take, List.length_drop]
    refine ⟨?_, ?_, ?_, ?_, ?_, ?_, ?_, ?_, ?_⟩ <;> omega)
  clear hb10 hbg hfr hS HV HT HD HX HLT HLen HCap
  refine wp_region_held_drew (S := fun w' => Tch [] w7 w') (by kernel_rfl) ((Tch.refl _ _).drew) (fun hC => ?_)
  generalize World.drew w7 = u0 at hC ⊢
  refine held_in (v := .agg (wf (hashN L))) 0 rfl (by kernel_rfl) (by kernel_rfl) (by kernel_rfl) (fun _ _ _ h => h) hC rfl (fun w' hw' => x_load _ _ rfl rfl (KH.out w' hw') word_type word_size (wf_size _)) ?_
  try simp only [Act.put, List.setIfInBounds_toArray, List.set_cons_zero, List.set_cons_succ]
  refine held_in (v := .slice p n c) 1 rfl (by kernel_rfl) (by kernel_rfl) (by kernel_rfl) (fun _ _ _ h => h) hC rfl (fun w' hw' => x_val (.inl rfl) rfl) ?_
  try simp only [Act.put, List.setIfInBounds_toArray, List.set_cons_zero, List.set_cons_succ]
  refine held_one 2 (by kernel_rfl) ?_
  refine held_call (v1 := .slice p n c) rfl rfl rfl (by rfl) Try.call7 (keccak_rd _ L u0 (KB.out u0 hC) HN.out.1) ?_
  rintro e u1 ⟨rfl, hU⟩
  replace hC := hC.trans hU
  clear hU
  refine ⟨_, rfl, hC, ?_⟩
  try simp only [Act.put, List.setIfInBounds_toArray, List.set_cons_zero, List.set_cons_succ]
  refine held_in (v := .bool true) 3 rfl (by kernel_rfl) (by kernel_rfl) (by kernel_rfl) (fun _ _ _ h => h) hC rfl (fun w' hw' => x_hash _ _ _ rfl rfl rfl) ?_
  try simp only [Act.put, List.setIfInBounds_toArray, List.set_cons_zero, List.set_cons_succ]
  refine held_in (v := .bool true) 4 rfl (by kernel_rfl) (by kernel_rfl) (by kernel_rfl) (fun _ _ _ h => h) hC rfl (fun w' hw' => x_val (.inl rfl) rfl) ?_
  try simp only [Act.put, List.setIfInBounds_toArray, List.set_cons_zero, List.set_cons_succ]
  refine held_in (v := .slice (some ⟨g, 0, none⟩) n cc) 5 rfl (by kernel_rfl) (by kernel_rfl) (by kernel_rfl) (fun _ _ _ h => h) hC rfl (fun w' hw' => x_val (.inl rfl) rfl) ?_
  try simp only [Act.put, List.setIfInBounds_toArray, List.set_cons_zero, List.set_cons_succ]
  refine held_in (v := .slice (some ⟨g, 0, none⟩) n cc) 8 rfl (by kernel_rfl) (by kernel_rfl) (by kernel_rfl) (fun _ _ _ h => h) hC rfl (fun w' hw' => x_val (.inl rfl) rfl) ?_
  try simp only [Act.put, List.setIfInBounds_toArray, List.set_cons_zero, List.set_cons_succ]
  refine held_one 6 (by kernel_rfl) ?_
  refine held_build2 (t := 24) (c := #[.slice (some ⟨g, 0, none⟩) n cc]) #[(0, .slice (some ⟨g, 0, none⟩) n cc)] rfl rfl rfl (by simp only [List.map_toArray, List.map_cons, List.map_nil]; rfl) (build1 _ _ _ _) ?_
  refine ⟨hC.trans ((Tch.refl [] u1).alloc _), ?_⟩
  try simp only [Act.put, List.setIfInBounds_toArray, List.set_cons_zero, List.set_cons_succ]
  refine held_one 7 (by kernel_rfl) ?_
  refine held_call (v1 := .slice (some ⟨u1.heap.size, 0, none⟩) 1 1) rfl rfl rfl (by rfl) Try.call8 (sum_new _ L2 u1 (KC.out u1 hC) HN.out.2.1) ?_
  rintro e u2 ⟨rfl, hU⟩
  replace hC := hC.trans hU
  clear hU
  refine ⟨_, rfl, hC, ?_⟩
  try simp only [Act.put, List.setIfInBounds_toArray, List.set_cons_zero, List.set_cons_succ]
  refine held_one 9 (by kernel_rfl) ?_
  refine held_call (v1 := .slice (some ⟨g, 0, none⟩) n cc) rfl rfl rfl (by rfl) Try.call7 (keccak_rd _ L2 u2 (KC.out u2 hC) HN.out.2.2.1) ?_
  rintro e u3 ⟨rfl, hU⟩
  replace hC := hC.trans hU
  clear hU
  refine ⟨_, rfl, hC, ?_⟩
  try simp only [Act.put, List.setIfInBounds_toArray, List.set_cons_zero, List.set_cons_succ]
  refine held_in (v := .bool true) 10 rfl (by kernel_rfl) (by kernel_rfl) (by kernel_rfl) (fun _ _ _ h => h) hC rfl (fun w' hw' => x_hash _ _ _ rfl rfl rfl) ?_
  try simp only [Act.put, List.setIfInBounds_toArray, List.set_cons_zero, List.set_cons_succ]
  refine held_in (v := .bool true) 11 rfl (by kernel_rfl) (by kernel_rfl) (by kernel_rfl) (fun _ _ _ h => h) hC rfl (fun w' hw' => x_pickT _ _ _ rfl rfl rfl) ?_
  try simp only [Act.put, List.setIfInBounds_toArray, List.set_cons_zero, List.set_cons_succ]
  refine held_in (v := .bool true) 12 rfl (by kernel_rfl) (by kernel_rfl) (by kernel_rfl) (fun _ _ _ h => h) hC rfl (fun w' hw' => x_val (.inl rfl) rfl) ?_
  try simp only [Act.put, List.setIfInBounds_toArray, List.set_cons_zero, List.set_cons_succ]
  refine held_in (v := .slice p n c) 13 rfl (by kernel_rfl) (by kernel_rfl) (by kernel_rfl) (fun _ _ _ h => h) hC rfl (fun w' hw' => x_val (.inl rfl) rfl) ?_
  try simp only [Act.put, List.setIfInBounds_toArray, List.set_cons_zero, List.set_cons_succ]
  refine held_in (v := .int .i64 (k : Int)) 14 rfl (by kernel_rfl) (by kernel_rfl) (by kernel_rfl) (fun _ _ _ h => h) hC rfl (fun w' hw' => x_val (.inl rfl) rfl) ?_
  try simp only [Act.put, List.setIfInBounds_toArray, List.set_cons_zero, List.set_cons_succ]
  refine held_in (v := .slice p k c) 15 rfl (by kernel_rfl) (by kernel_rfl) (by kernel_rfl) (fun _ _ _ h => h) hC rfl (fun w' hw' => x_to _ _ _ rfl rfl rfl (slice_toP p n c k HN.out.2.2.2.1 HN.out.2.2.2.2.1 w')) ?_
  try simp only [Act.put, List.setIfInBounds_toArray, List.set_cons_zero, List.set_cons_succ]
  refine held_in (v := .slice p n c) 18 rfl (by kernel_rfl) (by kernel_rfl) (by kernel_rfl) (fun _ _ _ h => h) hC rfl (fun w' hw' => x_val (.inl rfl) rfl) ?_
  try simp only [Act.put, List.setIfInBounds_toArray, List.set_cons_zero, List.set_cons_succ]
  refine held_in (v := .int .i64 (k : Int)) 19 rfl (by kernel_rfl) (by kernel_rfl) (by kernel_rfl) (fun _ _ _ h => h) hC rfl (fun w' hw' => x_val (.inl rfl) rfl) ?_
  try simp only [Act.put, List.setIfInBounds_toArray, List.set_cons_zero, List.set_cons_succ]
  refine held_in (v := .slice p k c) 20 rfl (by kernel_rfl) (by kernel_rfl) (by kernel_rfl) (fun _ _ _ h => h) hC rfl (fun w' hw' => x_to _ _ _ rfl rfl rfl (slice_toP p n c k HN.out.2.2.2.1 HN.out.2.2.2.2.1 w')) ?_
  try simp only [Act.put, List.setIfInBounds_toArray, List.set_cons_zero, List.set_cons_succ]
  refine held_one 16 (by kernel_rfl) ?_
  refine held_build2 (t := 24) (c := #[.slice p k c]) #[(0, .slice p k c)] rfl rfl rfl (by simp only [List.map_toArray, List.map_cons, List.map_nil]; rfl) (build1 _ _ _ _) ?_
  refine ⟨hC.trans ((Tch.refl [] u3).alloc _), ?_⟩
  try simp only [Act.put, List.setIfInBounds_toArray, List.set_cons_zero, List.set_cons_succ]
  refine held_one 17 (by kernel_rfl) ?_
  refine held_call (v1 := .slice (some ⟨u3.heap.size, 0, none⟩) 1 1) rfl rfl rfl (by rfl) Try.call8 (sum_new _ (L.take k) u3 (KT.out u3 hC) HN.out.2.2.2.2.2.1) ?_
  rintro e u4 ⟨rfl, hU⟩
  replace hC := hC.trans hU
  clear hU
  refine ⟨_, rfl, hC, ?_⟩
  try simp only [Act.put, List.setIfInBounds_toArray, List.set_cons_zero, List.set_cons_succ]
  refine held_one 21 (by kernel_rfl) ?_
  refine held_call (v1 := .slice p k c) rfl rfl rfl (by rfl) Try.call7 (keccak_rd _ (L.take k) u4 (KT.out u4 hC) HN.out.2.2.2.2.2.2.1) ?_
  rintro e u5 ⟨rfl, hU⟩
  replace hC := hC.trans hU
  clear hU
  refine ⟨_, rfl, hC, ?_⟩
  try simp only [Act.put, List.setIfInBounds_toArray, List.set_cons_zero, List.set_cons_succ]
  refine held_in (v := .bool true) 22 rfl (by kernel_rfl) (by kernel_rfl) (by kernel_rfl) (fun _ _ _ h => h) hC rfl (fun w' hw' => x_hash _ _ _ rfl rfl rfl) ?_
  try simp only [Act.put, List.setIfInBounds_toArray, List.set_cons_zero, List.set_cons_succ]
  refine held_in (v := .bool true) 23 rfl (by kernel_rfl) (by kernel_rfl) (by kernel_rfl) (fun _ _ _ h => h) hC rfl (fun w' hw' => x_pickT _ _ _ rfl rfl rfl) ?_
  try simp only [Act.put, List.setIfInBounds_toArray, List.set_cons_zero, List.set_cons_succ]
  refine held_in (v := .bool true) 24 rfl (by kernel_rfl) (by kernel_rfl) (by kernel_rfl) (fun _ _ _ h => h) hC rfl (fun w' hw' => x_val (.inl rfl) rfl) ?_
  try simp only [Act.put, List.setIfInBounds_toArray, List.set_cons_zero, List.set_cons_succ]
  refine held_in (v := .agg (wf (hashN L))) 25 rfl (by kernel_rfl) (by kernel_rfl) (by kernel_rfl) (fun _ _ _ h => h) hC rfl (fun w' hw' => x_load _ _ rfl rfl (KH.out w' hw') word_type word_size (wf_size _)) ?_
  try simp only [Act.put, List.setIfInBounds_toArray, List.set_cons_zero, List.set_cons_succ]
  refine held_in (v := .slice p n c) 26 rfl (by kernel_rfl) (by kernel_rfl) (by kernel_rfl) (fun _ _ _ h => h) hC rfl (fun w' hw' => x_val (.inl rfl) rfl) ?_
  try simp only [Act.put, List.setIfInBounds_toArray, List.set_cons_zero, List.set_cons_succ]
  refine held_in (v := .int .i64 (k : Int)) 27 rfl (by kernel_rfl) (by kernel_rfl) (by kernel_rfl) (fun _ _ _ h => h) hC rfl (fun w' hw' => x_val (.inl rfl) rfl) ?_
  try simp only [Act.put, List.setIfInBounds_toArray, List.set_cons_zero, List.set_cons_succ]
  refine held_in (v := .slice p k c) 28 rfl (by kernel_rfl) (by kernel_rfl) (by kernel_rfl) (fun _ _ _ h => h) hC rfl (fun w' hw' => x_to _ _ _ rfl rfl rfl (slice_toP p n c k HN.out.2.2.2.1 HN.out.2.2.2.2.1 w')) ?_
  try simp only [Act.put, List.setIfInBounds_toArray, List.set_cons_zero, List.set_cons_succ]
  refine held_in (v := .slice p n c) 29 rfl (by kernel_rfl) (by kernel_rfl) (by kernel_rfl) (fun _ _ _ h => h) hC rfl (fun w' hw' => x_val (.inl rfl) rfl) ?_
  try simp only [Act.put, List.setIfInBounds_toArray, List.set_cons_zero, List.set_cons_succ]
  refine held_in (v := .int .i64 (k : Int)) 30 rfl (by kernel_rfl) (by kernel_rfl) (by kernel_rfl) (fun _ _ _ h => h) hC rfl (fun w' hw' => x_val (.inl rfl) rfl) ?_
  try simp only [Act.put, List.setIfInBounds_toArray, List.set_cons_zero, List.set_cons_succ]
  refine held_in (v := .slice p2 (n - k) c2) 31 rfl (by kernel_rfl) (by kernel_rfl) (by kernel_rfl) (fun _ _ _ h => h) hC rfl (fun w' hw' => x_from _ _ _ rfl rfl rfl (HSF.out w')) ?_
  try simp only [Act.put, List.setIfInBounds_toArray, List.set_cons_zero, List.set_cons_succ]
  refine held_one 32 (by kernel_rfl) ?_
  refine held_build2 (t := 24) (c := #[.slice p k c, .slice p2 (n - k) c2]) #[(0, .slice p k c), (1, .slice p2 (n - k) c2)] rfl rfl rfl (by simp only [List.map_toArray, List.map_cons, List.map_nil]; rfl) (build2 _ _ _ _ _ _ _) ?_
  refine ⟨hC.trans ((Tch.refl [] u5).alloc _), ?_⟩
  try simp only [Act.put, List.setIfInBounds_toArray, List.set_cons_zero, List.set_cons_succ]
  refine held_one 33 (by kernel_rfl) ?_
  refine held_call (v1 := .slice (some ⟨u5.heap.size, 0, none⟩) 2 2) rfl rfl rfl (by rfl) Try.call8 (sum_new2 _ _ (L.take k) (L.drop k) u5 (KT.out u5 hC) (KD.out u5 hC) HN.out.2.2.2.2.2.1 HN.out.2.2.2.2.2.2.2.1) ?_
  rw [List.take_append_drop]
  rintro e u6 ⟨rfl, hU⟩
  replace hC := hC.trans hU
  clear hU
  refine ⟨_, rfl, hC, ?_⟩
  try simp only [Act.put, List.setIfInBounds_toArray, List.set_cons_zero, List.set_cons_succ]
  refine held_in (v := .bool true) 34 rfl (by kernel_rfl) (by kernel_rfl) (by kernel_rfl) (fun _ _ _ h => h) hC rfl (fun w' hw' => x_hash _ _ _ rfl rfl rfl) ?_
  try simp only [Act.put, List.setIfInBounds_toArray, List.set_cons_zero, List.set_cons_succ]
  refine held_in (v := .bool true) 35 rfl (by kernel_rfl) (by kernel_rfl) (by kernel_rfl) (fun _ _ _ h => h) hC rfl (fun w' hw' => x_pickT _ _ _ rfl rfl rfl) ?_
  try simp only [Act.put, List.setIfInBounds_toArray, List.set_cons_zero, List.set_cons_succ]
  refine held_in (v := .bool true) 36 rfl (by kernel_rfl) (by kernel_rfl) (by kernel_rfl) (fun _ _ _ h => h) hC rfl (fun w' hw' => x_val (.inl rfl) rfl) ?_
  try simp only [Act.put, List.setIfInBounds_toArray, List.set_cons_zero, List.set_cons_succ]
  refine held_in (v := .agg (wf (hashN L))) 37 rfl (by kernel_rfl) (by kernel_rfl) (by kernel_rfl) (fun _ _ _ h => h) hC rfl (fun w' hw' => x_load _ _ rfl rfl (KH.out w' hw') word_type word_size (wf_size _)) ?_
  try simp only [Act.put, List.setIfInBounds_toArray, List.set_cons_zero, List.set_cons_succ]
  refine held_in (v := .slice p n c) 38 rfl (by kernel_rfl) (by kernel_rfl) (by kernel_rfl) (fun _ _ _ h => h) hC rfl (fun w' hw' => x_val (.inl rfl) rfl) ?_
  try simp only [Act.put, List.setIfInBounds_toArray, List.set_cons_zero, List.set_cons_succ]
  refine held_one 39 (by kernel_rfl) ?_
  refine held_build2 (t := 24) (c := #[.slice none 0 0, .slice p n c, .slice none 0 0]) #[(0, .slice none 0 0), (1, .slice p n c), (2, .slice none 0 0)] rfl rfl rfl (by simp only [List.map_toArray, List.map_cons, List.map_nil]; rfl) (build3 _ _ _ _ _ _ _ _ _ _) ?_
  refine ⟨hC.trans ((Tch.refl [] u6).alloc _), ?_⟩
  try simp only [Act.put, List.setIfInBounds_toArray, List.set_cons_zero, List.set_cons_succ]
  refine held_one 40 (by kernel_rfl) ?_
  refine held_call (v1 := .slice (some ⟨u6.heap.size, 0, none⟩) 3 3) rfl rfl rfl (by rfl) Try.call8 (sum_new3 _ _ _ [] L [] u6 (RdB.nil u6) (KB.out u6 hC) (RdB.nil u6) (by decide) HN.out.2.2.2.2.2.2.2.2 (by decide)) ?_
  rw [List.nil_append, List.append_nil]
  rintro e u7 ⟨rfl, hU⟩
  replace hC := hC.trans hU
  clear hU
  refine ⟨_, rfl, hC, ?_⟩
  try simp only [Act.put, List.setIfInBounds_toArray, List.set_cons_zero, List.set_cons_succ]
  refine held_in (v := .bool true) 41 rfl (by kernel_rfl) (by kernel_rfl) (by kernel_rfl) (fun _ _ _ h => h) hC rfl (fun w' hw' => x_hash _ _ _ rfl rfl rfl) ?_
  try simp only [Act.put, List.setIfInBounds_toArray, List.set_cons_zero, List.set_cons_succ]
  refine held_in (v := .bool true) 42 rfl (by kernel_rfl) (by kernel_rfl) (by kernel_rfl) (fun _ _ _ h => h) hC rfl (fun w' hw' => x_pickT _ _ _ rfl rfl rfl) ?_
  try simp only [Act.put, List.setIfInBounds_toArray, List.set_cons_zero, List.set_cons_succ]
  refine held_in (v := .bool true) 43 rfl (by kernel_rfl) (by kernel_rfl) (by kernel_rfl) (fun _ _ _ h => h) hC rfl (fun w' hw' => x_val (.inr rfl) rfl) ?_
  try simp only [Act.put, List.setIfInBounds_toArray, List.set_cons_zero, List.set_cons_succ]
  refine wpAnyH_done (by kernel_rfl) ?_ _
  go_wp2
  go_ret
  exact ⟨rfl, HF.out.trans hC⟩
theorem turned_any (v : Value) (L : List Nat) (at_ by_ : Int) (w : World) (hv : RdA [] w v L) (hat : -9223372036854775808 ≤ at_ ∧ at_ ≤ 9223372036854775807) (hby : 0 ≤ by_ ∧ by_ ≤ 255) :
    Calls Try.prog 5 #[v, .int .i64 at_, .int .u8 by_] w fun e w' => e = .returned (.bool true) ∧ Tch [] w w' := by
  obtain ⟨p, n, c, rfl⟩ := slice_keep hv
  by_cases h1 : n < 1
  · exact turned_none p n c at_ by_ w h1
  by_cases h2 : 1000 < n
  · exact turned_long p n c at_ by_ w h2
  by_cases h3 : at_ < 0
  · exact turned_neg p n c at_ by_ w (by omega) (by omega) h3
  by_cases h4 : by_ = 0
  · subst h4; exact turned_same p n c at_ 0 w (by omega) (by omega) (by omega) rfl
  have := turned_main p n c at_.toNat by_.toNat L w hv (by omega) (by omega) (by omega) (by omega) (by omega)
  rwa [show ((at_.toNat : Nat) : Int) = at_ by omega, show ((by_.toNat : Nat) : Int) = by_ by omega] at this
end Go.Proofs.Ytaofhbnnldkegaa
