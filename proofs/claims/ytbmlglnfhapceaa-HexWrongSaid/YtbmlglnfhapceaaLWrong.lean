/- The law HexWrong: for every integer: of the texts that the law lists, what the one of that place is. No condition. -/
import Derived.Test.YtbmlglnfhapceaaL3
namespace Go.Proofs.Ytbmlglnfhapceaa.Wrong
open Go.RowKit

/-- The texts that the law lists. -/
def wl21 : List ByteArray := [⟨#[]⟩, ⟨#[48]⟩, ⟨#[48, 120]⟩, ⟨#[48, 120, 48]⟩, ⟨#[48, 120, 48, 48]⟩, ⟨#[48, 120, 48, 49]⟩, ⟨#[48, 120, 49]⟩, ⟨#[48, 88, 48, 49]⟩, ⟨#[48, 120, 65]⟩, ⟨#[48, 120, 65, 66]⟩, ⟨#[48, 120, 97, 98]⟩, ⟨#[48, 120, 97, 98, 99]⟩, ⟨#[97, 98]⟩, ⟨#[48, 120, 32, 97, 98]⟩, ⟨#[48, 120, 97, 98, 32]⟩, ⟨#[48, 120, 103, 48]⟩, ⟨#[48, 120, 48, 48, 48, 48, 48, 48, 48, 48, 48, 48, 48, 48, 48, 48, 48, 48, 48, 48, 48, 48, 48, 48, 48, 48, 48, 48, 48, 48, 48, 48, 48, 48, 48, 48, 48, 48, 48, 48, 102, 102]⟩, ⟨#[48, 120, 48, 48, 48, 48, 48, 48, 48, 48, 48, 48, 48, 48, 48, 48, 48, 48, 48, 48, 48, 48, 48, 48, 48, 48, 48, 48, 48, 48, 48, 48, 48, 48, 48, 48, 48, 48, 48, 48, 48]⟩, ⟨#[48, 120, 195, 169, 48]⟩, ⟨#[48, 120, 49, 48, 48, 48, 48, 48, 48, 48, 48, 48, 48, 48, 48, 48, 48, 48, 48, 48, 48, 48, 48, 48, 48, 48, 48, 48, 48, 48, 48, 48, 48, 48, 48, 48, 48, 48, 48, 48, 48, 48, 48, 48, 48, 48, 48, 48, 48, 48, 48, 48, 48, 48, 48, 48, 48, 48, 48, 48, 48, 48, 48, 48, 48, 48]⟩, ⟨#[48, 120, 49, 48, 48, 48, 48, 48, 48, 48, 48, 48, 48, 48, 48, 48, 48, 48, 48, 48, 48, 48, 48, 48, 48, 48, 48, 48, 48, 48, 48, 48, 48, 48, 48, 48, 48, 48, 48, 48, 48, 48, 48, 48, 48, 48, 48, 48, 48, 48, 48, 48, 48, 48, 48, 48, 48, 48, 48, 48, 48, 48, 48, 48, 48, 48, 48]⟩]
def ws (k : Nat) : ByteArray := wl21.getD k ⟨#[]⟩
def cellsS : Array Value := #[.string ⟨#[]⟩, .string ⟨#[48]⟩, .string ⟨#[48, 120]⟩, .string ⟨#[48, 120, 48]⟩, .string ⟨#[48, 120, 48, 48]⟩, .string ⟨#[48, 120, 48, 49]⟩, .string ⟨#[48, 120, 49]⟩, .string ⟨#[48, 88, 48, 49]⟩, .string ⟨#[48, 120, 65]⟩, .string ⟨#[48, 120, 65, 66]⟩, .string ⟨#[48, 120, 97, 98]⟩, .string ⟨#[48, 120, 97, 98, 99]⟩, .string ⟨#[97, 98]⟩, .string ⟨#[48, 120, 32, 97, 98]⟩, .string ⟨#[48, 120, 97, 98, 32]⟩, .string ⟨#[48, 120, 103, 48]⟩, .string ⟨#[48, 120, 48, 48, 48, 48, 48, 48, 48, 48, 48, 48, 48, 48, 48, 48, 48, 48, 48, 48, 48, 48, 48, 48, 48, 48, 48, 48, 48, 48, 48, 48, 48, 48, 48, 48, 48, 48, 48, 48, 102, 102]⟩, .string ⟨#[48, 120, 48, 48, 48, 48, 48, 48, 48, 48, 48, 48, 48, 48, 48, 48, 48, 48, 48, 48, 48, 48, 48, 48, 48, 48, 48, 48, 48, 48, 48, 48, 48, 48, 48, 48, 48, 48, 48, 48, 48]⟩, .string ⟨#[48, 120, 195, 169, 48]⟩, .string ⟨#[48, 120, 49, 48, 48, 48, 48, 48, 48, 48, 48, 48, 48, 48, 48, 48, 48, 48, 48, 48, 48, 48, 48, 48, 48, 48, 48, 48, 48, 48, 48, 48, 48, 48, 48, 48, 48, 48, 48, 48, 48, 48, 48, 48, 48, 48, 48, 48, 48, 48, 48, 48, 48, 48, 48, 48, 48, 48, 48, 48, 48, 48, 48, 48, 48, 48]⟩, .string ⟨#[48, 120, 49, 48, 48, 48, 48, 48, 48, 48, 48, 48, 48, 48, 48, 48, 48, 48, 48, 48, 48, 48, 48, 48, 48, 48, 48, 48, 48, 48, 48, 48, 48, 48, 48, 48, 48, 48, 48, 48, 48, 48, 48, 48, 48, 48, 48, 48, 48, 48, 48, 48, 48, 48, 48, 48, 48, 48, 48, 48, 48, 48, 48, 48, 48, 48, 48]⟩]
def cellsB : Array Value := #[.bool false, .bool false, .bool true, .bool false, .bool true, .bool true, .bool false, .bool false, .bool false, .bool false, .bool true, .bool false, .bool false, .bool false, .bool false, .bool false, .bool true, .bool false, .bool false, .bool true, .bool false]
def cellsW : Array Value := #[.bool false, .bool false, .bool false, .bool true, .bool false, .bool false, .bool true, .bool false, .bool false, .bool false, .bool true, .bool true, .bool false, .bool false, .bool false, .bool false, .bool false, .bool false, .bool false, .bool true, .bool false]
theorem cellS {k : Nat} (h : k < 21) : cellsS[k]? = some (.string (ws k)) := by
  have e : cellsS = (wl21.map Value.string).toArray := by rfl
  have hz : k < wl21.length := h
  rw [e]
  unfold ws
  simp [hz]
theorem cellB {k : Nat} (h : k < 21) : cellsB[k]? = some (.bool (rdOk (ws k))) := by
  have e : cellsB = ((List.range 21).map fun i => Value.bool (rdOk (ws i))).toArray := by
    have h1 : ((List.range 21).map fun i => rdOk (ws i)) = [false, false, true, false, true, true, false, false, false, false, true, false, false, false, false, false, true, false, false, true, false] := by decide +kernel
    rw [show ((List.range 21).map fun i => Value.bool (rdOk (ws i))) = (((List.range 21).map fun i => rdOk (ws i)).map Value.bool) by rw [List.map_map]; rfl, h1]; rfl
  rw [e]; simp [h]
theorem cellW {k : Nat} (h : k < 21) : cellsW[k]? = some (.bool (wOk (ws k))) := by
  have e : cellsW = ((List.range 21).map fun i => Value.bool (wOk (ws i))).toArray := by
    have h1 : ((List.range 21).map fun i => wOk (ws i)) = [false, false, false, true, false, false, true, false, false, false, true, true, false, false, false, false, false, false, false, true, false] := by decide +kernel
    rw [show ((List.range 21).map fun i => Value.bool (wOk (ws i))) = (((List.range 21).map fun i => wOk (ws i)).map Value.bool) by rw [List.map_map]; rfl, h1]; rfl
  rw [e]; simp [h]
theorem is_addr {k : Nat} (h : k < 21) : aOk (ws k) = decide (k = 16) := by
  have all : ∀ j : Fin 21, aOk (ws j.val) = decide (j.val = 16) := by decide +kernel
  exact all ⟨k, h⟩
theorem ws_size {k : Nat} (h : k < 21) : (ws k).size ≤ 100 := by
  have all : ∀ j : Fin 21, (ws j.val).size ≤ 100 := by decide +kernel
  exact all ⟨k, h⟩
theorem bool_size : (Try.prog.info? 4).map (·.size) = some 1 := by kernel_rfl
theorem nought (k : Bool) : (((bif k then 0 else 2 : Int)) == 0) = k := by cases k <;> rfl
set_option maxHeartbeats 4000000 in
set_option maxRecDepth 100000 in
theorem walk (n0 : Int) (hn : (Lit.int .i64 n0).wf = true) (w : World) : Calls Try.prog 5 #[.int .i64 n0] w fun e w' => e = .returned (.bool true) ∧ Tch [] w w' := by
  have hn : -9223372036854775808 ≤ n0 ∧ n0 ≤ 9223372036854775807 := by
    simp [Lit.wf, IntKind.min, IntKind.max, IntKind.bits, IntKind.signed] at hn
    omega
  have hS := St.start w
  by_cases hin : 0 ≤ n0 ∧ n0 < 21
  · obtain ⟨k, rfl⟩ := Int.eq_ofNat_of_zero_le hin.1
    have hk : k < 21 := by omega
    have hki : (k : Int) < 21 := by omega
    have hd0 : decide ((k : Int) < 0) = false := by simp
    have hd21 : decide ((21 : Int) ≤ (k : Int)) = false := by simp; omega
    have hw := ws_size hk
    have c1 := fun w1 => (hexRead_any (ws k) w1 (by omega)).mono (fun e w' h => h.both)
    have c2 := fun w1 => (hexWord_any (ws k) w1 (by omega)).mono (fun e w' h => h.both)
    have c3 := fun w1 => (hexAddr_any (ws k) w1 (by omega)).mono (fun e w' h => h.both)
    simp only [pick_int] at c1 c2 c3
    generalize (if wOk (ws k) then wVal (ws k) else fun _ => 0) = fW at *
    generalize (if aOk (ws k) then aVal (ws k) else fun _ => 0) = fA at *
    have q1 := nought (rdOk (ws k))
    have q2 := nought (wOk (ws k))
    have q3 := nought (aOk (ws k))
    have q4 := cellS hk
    have q5 := cellB hk
    have q6 := cellW hk
    have q7 := is_addr hk
    have q8 : ((k : Int) == 16) = aOk (ws k) := by rw [q7, Bool.eq_iff_iff]; simp; omega
    generalize ws k = s at *
    generalize rdOk s = kR at *
    generalize wOk s = kW at *
    generalize aOk s = kA at *
    generalize (bif kR then (0 : Int) else 2) = nR at *
    generalize (bif kW then (0 : Int) else 2) = nW at *
    generalize (bif kA then (0 : Int) else 2) = nA at *
    have C := Lib.hid (And.intro c1 (And.intro c2 c3))
    have HI := Lib.hid (And.intro q1 (And.intro q2 (And.intro q3 q8)))
    have HC := Lib.hid (And.intro q4 (And.intro q5 q6))
    clear c1 c2 c3 q1 q2 q3 q4 q5 q6 q7 q8 hn hin
    go_enter Try.func5, Try.ntmps5
    go_upto_region 7 with (first | (go_at_call 7; refine (alive_any _).mono ?_; rintro e w2 ⟨rfl, hT⟩; replace hS := hS.call hT; clear hT) | (have _t := b5; clear _t; refine st_buildS (n := 21) (ty := 47) (t := 4) (c := cellsW) hS rfl rfl (by intro w; kernel_rfl) ?_; clear hS; intro w1 b6 hS) | (have _t := b4; clear _t; refine st_buildS (n := 21) (ty := 47) (t := 4) (c := cellsB) hS rfl rfl (by intro w; kernel_rfl) ?_; clear hS; intro w1 b5 hS) | (refine st_buildS (n := 21) (ty := 46) (t := 9) (c := cellsS) hS rfl rfl (by intro w; kernel_rfl) ?_; clear hS; intro w1 b4 hS))
    generalize cellsS = cS at *
    generalize cellsB = cB at *
    generalize cellsW = cW at *
    go_upto_region 10 with (first | (refine st_cell1 (j := k) hS rfl 9 _ rfl rfl (by repeat (first | exact At.head | apply At.tail)) HC.out.1 string_agg ?_) | (go_at_call 8; refine (C.out.1 _).mono ?_; rintro e w2 ⟨v, rfl, hv, hT⟩; clear hv; replace hS := hS.call hT; clear hT) | (go_at_call 10; refine (C.out.2.1 _).mono ?_; rintro e w2 ⟨rfl, hT⟩; replace hS := hS.call hT; clear hT) | (go_at_call 12; refine (C.out.2.2 _).mono ?_; rintro e w2 ⟨rfl, hT⟩; replace hS := hS.call hT; clear hT) | (refine st_new hS rfl 30 rfl word_zero ?_; clear hS; intro w5 b9 hS) | (refine st_new hS rfl 36 rfl addr_zero ?_; clear hS; intro w5 b11 hS) | (refine st_store hS rfl 30 _ _ rfl rfl rfl (by repeat (first | exact Upd.head | apply Upd.tail)) word_size (bc_size _ _) (bc_size _ _) (bc_one _ _) ?_; clear hS; intro w1 hS) | (refine st_store hS rfl 36 _ _ rfl rfl rfl (by repeat (first | exact Upd.head | apply Upd.tail)) addr_size (bc_size _ _) (bc_size _ _) (bc_one _ _) ?_; clear hS; intro w1 hS))
    have hc5 := ((hS.get (b := b5) (by repeat (first | exact At.head | apply At.tail))).drew).cell HC.out.2.1
    have hc6 := ((hS.get (b := b6) (by repeat (first | exact At.head | apply At.tail))).drew).cell HC.out.2.2
    have hFF := hS.frame.drew
    refine k_region (C := fun w' => w' = w1.drew) (by kernel_rfl) (by kernel_rfl) rfl ?_
    repeat (first | (refine k_skip rfl rfl rfl rfl rfl ?_; try simp only [Act.put, List.setIfInBounds_toArray, List.set_cons_zero, List.set_cons_succ]) | (refine k_num rfl rfl rfl ?_; try simp only [Act.put, List.setIfInBounds_toArray, List.set_cons_zero, List.set_cons_succ]) | (refine k_ints rfl _ _ _ rfl rfl rfl (by first | exact HI.out.1 | exact HI.out.2.1 | exact HI.out.2.2.1 | exact HI.out.2.2.2) ?_; try simp only [Act.put, List.setIfInBounds_toArray, List.set_cons_zero, List.set_cons_succ]) | (refine k_idxSl (j := k) rfl 47 _ _ rfl rfl rfl Try.underlying47 bool_size hk ?_; simp only [Nat.zero_add]; try simp only [Act.put, List.setIfInBounds_toArray, List.set_cons_zero, List.set_cons_succ]) | (refine k_cellC rfl 4 _ rfl rfl (b := b5) (j := k) (fun w h => by rw [h]; exact hc5) bool_agg ?_; try simp only [Act.put, List.setIfInBounds_toArray, List.set_cons_zero, List.set_cons_succ]) | (refine k_cellC rfl 4 _ rfl rfl (b := b6) (j := k) (fun w h => by rw [h]; exact hc6) bool_agg ?_; try simp only [Act.put, List.setIfInBounds_toArray, List.set_cons_zero, List.set_cons_succ]) | (refine k_boolsS rfl _ _ _ rfl rfl rfl ?_; try simp only [Act.put, List.setIfInBounds_toArray, List.set_cons_zero, List.set_cons_succ]) | (refine k_slice rfl _ rfl rfl ?_; try simp only [Act.put, List.setIfInBounds_toArray, List.set_cons_zero, List.set_cons_succ]) | (refine k_boolm rfl _ rfl rfl ?_; try simp only [Act.put, List.setIfInBounds_toArray, List.set_cons_zero, List.set_cons_succ]) | (refine k_boola rfl _ rfl rfl ?_; try simp only [Act.put, List.setIfInBounds_toArray, List.set_cons_zero, List.set_cons_succ]) | (refine k_intm rfl _ rfl rfl ?_; try simp only [Act.put, List.setIfInBounds_toArray, List.set_cons_zero, List.set_cons_succ]) | (refine k_inta rfl _ rfl rfl ?_; try simp only [Act.put, List.setIfInBounds_toArray, List.set_cons_zero, List.set_cons_succ]) | (refine k_pickT rfl _ _ _ rfl rfl rfl ?_; try simp only [Act.put, List.setIfInBounds_toArray, List.set_cons_zero, List.set_cons_succ]) | (refine k_pickF rfl _ _ _ rfl rfl rfl ?_; try simp only [Act.put, List.setIfInBounds_toArray, List.set_cons_zero, List.set_cons_succ]) | (refine k_bools rfl _ _ _ rfl rfl rfl ?_; try simp only [Act.put, List.setIfInBounds_toArray, List.set_cons_zero, List.set_cons_succ]) | (refine k_val rfl _ (.inl rfl) rfl ?_; try simp only [Act.put, List.setIfInBounds_toArray, List.set_cons_zero, List.set_cons_succ]))
    refine k_end ?_
    rintro w' rfl
    go_wp2
    go_ret
    exact ⟨rfl, hFF⟩
  · by_cases hneg : n0 < 0
    · have hd0 : decide (n0 < 0) = true := by simpa using hneg
      go_enter Try.func5, Try.ntmps5
      go_wp2_with (first | (go_at_call 7; refine (alive_any _).mono ?_; rintro e w2 ⟨rfl, hT⟩; replace hS := hS.call hT; clear hT) | (have _t := b5; clear _t; refine st_buildS (n := 21) (ty := 47) (t := 4) (c := cellsW) hS rfl rfl (by intro w; kernel_rfl) ?_; clear hS; intro w1 b6 hS) | (have _t := b4; clear _t; refine st_buildS (n := 21) (ty := 47) (t := 4) (c := cellsB) hS rfl rfl (by intro w; kernel_rfl) ?_; clear hS; intro w1 b5 hS) | (refine st_buildS (n := 21) (ty := 46) (t := 9) (c := cellsS) hS rfl rfl (by intro w; kernel_rfl) ?_; clear hS; intro w1 b4 hS))
      go_ret
      exact ⟨rfl, hS.frame⟩
    · have hd0 : decide (n0 < 0) = false := by simpa using hneg
      have hd21 : decide ((21 : Int) ≤ n0) = true := by simp; omega
      go_enter Try.func5, Try.ntmps5
      go_wp2_with (first | (go_at_call 7; refine (alive_any _).mono ?_; rintro e w2 ⟨rfl, hT⟩; replace hS := hS.call hT; clear hT) | (have _t := b5; clear _t; refine st_buildS (n := 21) (ty := 47) (t := 4) (c := cellsW) hS rfl rfl (by intro w; kernel_rfl) ?_; clear hS; intro w1 b6 hS) | (have _t := b4; clear _t; refine st_buildS (n := 21) (ty := 47) (t := 4) (c := cellsB) hS rfl rfl (by intro w; kernel_rfl) ?_; clear hS; intro w1 b5 hS) | (refine st_buildS (n := 21) (ty := 46) (t := 9) (c := cellsS) hS rfl rfl (by intro w; kernel_rfl) ?_; clear hS; intro w1 b4 hS))
      go_ret
      exact ⟨rfl, hS.frame⟩
end Go.Proofs.Ytbmlglnfhapceaa.Wrong
