/- The law HexReads: for every text: what it is as bytes, as a word, as an address, as the document's own words tell. No condition. -/
import Derived.Test.YtbmlglnfhapceaaL0
namespace Go.Proofs.Ytbmlglnfhapceaa.Reads
open Go.RowKit

set_option maxHeartbeats 4000000 in
set_option maxRecDepth 100000 in
theorem walk (s : ByteArray) (hs : s.size ≤ maxLen) (w : World) : Calls Try.prog 3 #[.string s] w fun e w' => e = .returned (.bool true) ∧ Tch [] w w' := by
  unfold maxLen at hs
  by_cases hl : s.size ≤ 10000
  · have hd : decide ((10000 : Int) < s.size) = false := by simp; omega
    have c1 := fun w1 => (hexRead_any s w1 (by omega)).mono (fun e w' h => h.both)
    have c2 := fun w1 => (readHex_any s w1 (by omega)).mono (fun e w' h => h.both)
    have c3 := fun w1 => (hexWord_any s w1 (by omega)).mono (fun e w' h => h.both)
    have c4 := fun w1 => (readWord_any s w1 (by omega)).mono (fun e w' h => h.both)
    have c5 := fun w1 => (hexAddr_any s w1 (by omega)).mono (fun e w' h => h.both)
    have c6 := fun w1 => (readAddr_any s w1 (by omega)).mono (fun e w' h => h.both)
    have hW : ∀ i, i < 32 → (if wOk s then wVal s else fun _ => 0) i < 256 := fun i _ => by split; exact wVal_lt s i; exact Nat.zero_lt_succ 255
    have hA : ∀ i, i < 20 → (if aOk s then aVal s else fun _ => 0) i < 256 := fun i _ => by split; exact prs_getD_lt _ _ _; exact Nat.zero_lt_succ 255
    generalize (if wOk s then wVal s else fun _ => 0) = fW at *
    generalize (if aOk s then aVal s else fun _ => 0) = fA at *
    generalize rdL s = L at *
    have hS := St.start w
    simp only [pick_int, pick_bool] at c1 c2 c3 c4 c5 c6
    generalize rdOk s = kR at *
    generalize wOk s = kW at *
    generalize aOk s = kA at *
    obtain ⟨nR, hR⟩ : ∃ n : Int, n = bif kR then 0 else 2 := ⟨_, rfl⟩
    obtain ⟨nW, hnW0⟩ : ∃ n : Int, n = bif kW then 0 else 2 := ⟨_, rfl⟩
    obtain ⟨nA, hnA0⟩ : ∃ n : Int, n = bif kA then 0 else 2 := ⟨_, rfl⟩
    rw [← hR] at c1
    rw [← hnW0] at c3
    rw [← hnA0] at c5
    have C := Lib.hid (And.intro c1 (And.intro c2 (And.intro c3 (And.intro c4 (And.intro c5 c6)))))
    have HK := Lib.hid (And.intro hR (And.intro hnW0 hnA0))
    clear c1 c2 c3 c4 c5 c6 hR hnW0 hnA0
    go_enter Try.func3, Try.ntmps3
    go_upto_region 10 with (first | (go_at_call 7; refine (alive_any _).mono ?_; rintro e w1 ⟨rfl, hT⟩; replace hS := hS.call hT; clear hT) | (go_at_call 8; refine (C.out.1 _).mono ?_; rintro e w2 ⟨v, rfl, hv, hT⟩; replace hS := hS.call hT; clear hT; have hF := hS.frame; clear hS; have hS := St.start w2; clear hl) | (go_at_call 9; refine (C.out.2.1 _).mono ?_; rintro e w3 ⟨u, rfl, hu, hT⟩; replace hv := hv.tch hT (by simp); replace hF := hF.trans hT; clear hT hS; have hS := St.start w3) | (go_at_call 10; refine (C.out.2.2.1 _).mono ?_; rintro e w4 ⟨rfl, hT⟩; replace hS := hS.call hT; clear hT) | (go_at_call 11; refine (C.out.2.2.2.1 _).mono ?_; rintro e w4 ⟨rfl, hT⟩; replace hS := hS.call hT; clear hT) | (go_at_call 12; refine (C.out.2.2.2.2.1 _).mono ?_; rintro e w4 ⟨rfl, hT⟩; replace hS := hS.call hT; clear hT) | (go_at_call 13; refine (C.out.2.2.2.2.2 _).mono ?_; rintro e w4 ⟨rfl, hT⟩; replace hS := hS.call hT; clear hT) | (refine st_new hS rfl 30 rfl word_zero ?_; clear hS; intro w5 b5 hS) | (refine st_new hS rfl 36 rfl addr_zero ?_; clear hS; intro w5 b5 hS) | (refine st_store hS rfl 30 _ _ rfl rfl rfl (by repeat (first | exact Upd.head | apply Upd.tail)) word_size (bc_size _ _) (bc_size _ _) (bc_one _ _) ?_; clear hS; intro w1 hS) | (refine st_store hS rfl 36 _ _ rfl rfl rfl (by repeat (first | exact Upd.head | apply Upd.tail)) addr_size (bc_size _ _) (bc_size _ _) (bc_one _ _) ?_; clear hS; intro w1 hS))
    replace hv := hv.tch hS.frame (by simp)
    replace hu := hu.tch hS.frame (by simp)
    have hnR := HK.out.1
    have hnW := HK.out.2.1
    have hnA := HK.out.2.2
    have HFF := Lib.hid (hF.trans hS.frame)
    clear C hF
    cases kR <;> cases kW <;> cases kA
    all_goals
      simp only [cond_true, cond_false] at hnR hnW hnA
      subst hnR hnW hnA
      refine k_seq (C := fun w' => w' = w1) rfl ?_
      repeat (first | (refine k_skip rfl rfl rfl rfl rfl ?_; try simp only [Act.put, List.setIfInBounds_toArray, List.set_cons_zero, List.set_cons_succ]) | (refine k_num rfl rfl rfl ?_; try simp only [Act.put, List.setIfInBounds_toArray, List.set_cons_zero, List.set_cons_succ]) | (refine k_ints rfl _ _ _ rfl rfl rfl (by with_reducible rfl) ?_; try simp only [Act.put, List.setIfInBounds_toArray, List.set_cons_zero, List.set_cons_succ]) | (refine k_loadC rfl 30 _ rfl rfl (fun w h => by rw [h]; exact hS.get (by repeat (first | exact At.head | apply At.tail))) word_type word_size (bc_size _ _) ?_; try simp only [Act.put, List.setIfInBounds_toArray, List.set_cons_zero, List.set_cons_succ]) | (refine k_loadC rfl 36 _ rfl rfl (fun w h => by rw [h]; exact hS.get (by repeat (first | exact At.head | apply At.tail))) addr_type addr_size (bc_size _ _) ?_; try simp only [Act.put, List.setIfInBounds_toArray, List.set_cons_zero, List.set_cons_succ]) | (refine k_arrS rfl 30 _ _ _ rfl rfl rfl (by kernel_rfl) word_type hW ?_; try simp only [Act.put, List.setIfInBounds_toArray, List.set_cons_zero, List.set_cons_succ]) | (refine k_arrS rfl 36 _ _ _ rfl rfl rfl (by kernel_rfl) addr_type hA ?_; try simp only [Act.put, List.setIfInBounds_toArray, List.set_cons_zero, List.set_cons_succ]) | (refine k_conv rfl _ rfl rfl (v := v) (fun w h => by rw [h]; exact hv) ?_; try simp only [Act.put, List.setIfInBounds_toArray, List.set_cons_zero, List.set_cons_succ]) | (refine k_conv rfl _ rfl rfl (v := u) (fun w h => by rw [h]; exact hu) ?_; try simp only [Act.put, List.setIfInBounds_toArray, List.set_cons_zero, List.set_cons_succ]) | (refine k_strS rfl _ _ _ rfl rfl rfl ?_; try simp only [Act.put, List.setIfInBounds_toArray, List.set_cons_zero, List.set_cons_succ]) | (refine k_boolm rfl _ rfl rfl ?_; try simp only [Act.put, List.setIfInBounds_toArray, List.set_cons_zero, List.set_cons_succ]) | (refine k_boola rfl _ rfl rfl ?_; try simp only [Act.put, List.setIfInBounds_toArray, List.set_cons_zero, List.set_cons_succ]) | (refine k_intm rfl _ rfl rfl ?_; try simp only [Act.put, List.setIfInBounds_toArray, List.set_cons_zero, List.set_cons_succ]) | (refine k_inta rfl _ rfl rfl ?_; try simp only [Act.put, List.setIfInBounds_toArray, List.set_cons_zero, List.set_cons_succ]) | (refine k_pickT rfl _ _ _ rfl rfl rfl ?_; try simp only [Act.put, List.setIfInBounds_toArray, List.set_cons_zero, List.set_cons_succ]) | (refine k_pickF rfl _ _ _ rfl rfl rfl ?_; try simp only [Act.put, List.setIfInBounds_toArray, List.set_cons_zero, List.set_cons_succ]) | (refine k_bools rfl _ _ _ rfl rfl rfl ?_; try simp only [Act.put, List.setIfInBounds_toArray, List.set_cons_zero, List.set_cons_succ]) | (refine k_val rfl _ (.inl rfl) rfl ?_; try simp only [Act.put, List.setIfInBounds_toArray, List.set_cons_zero, List.set_cons_succ]))
      refine k_end ?_
      rintro w' rfl
      go_wp2
      go_ret
      exact ⟨rfl, HFF.out⟩
  · have hd : decide ((10000 : Int) < s.size) = true := by simp; omega
    go_enter Try.func3, Try.ntmps3
    go_wp2_with (go_at_call 7; refine (alive_any _).mono ?_; rintro e w1 ⟨rfl, hT⟩)
    go_ret
    exact ⟨rfl, hT⟩
end Go.Proofs.Ytbmlglnfhapceaa.Reads
