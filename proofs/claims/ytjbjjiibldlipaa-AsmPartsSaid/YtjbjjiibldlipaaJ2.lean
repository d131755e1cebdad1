/- asm.follow; the strings.Builder that has not grown: copyCheck, WriteString. -/
import Derived.Test.YtjbjjiibldlipaaJ1
import Derived.Test.YtjbjjiibldlipaaO2
namespace Go.Proofs.Ytjbjjiibldlipaa
open Go.RowKit

theorem fol_own (x : Nat) : fol x = ownN x := by unfold fol ownN; split <;> split <;> omega
theorem rownA_any (x : Nat) (w : World) (hx : x < 256) : Calls Try.prog 19 #[.int .u8 (x : Int)] w fun e w' => e = .returned (.int .i64 ((ownN x : Nat) : Int)) ∧ w = w' := by
  rw [← fol_own]; exact own_any x w hx
theorem afollow_any (x : Nat) (w : World) (hx : x < 256) : Calls Try.prog 23 #[.int .u8 (x : Int)] w fun e w' => e = .returned (.int .i64 ((ownN x : Nat) : Int)) ∧ w = w' := by
  rw [← fol_own]
  by_cases h1 : x < 96
  · have hd : (x : Int) < 96 := by omega
    have e0 : fol x = 0 := by unfold fol; rw [if_neg (by omega)]
    rw [e0]
    go_enter Try.func23, Try.ntmps23
    go_wp2
    go_ret
    exact ⟨rfl, rfl⟩
  · have hd : ¬ (x : Int) < 96 := by omega
    by_cases h2 : 127 < x
    · have hd2 : (127 : Int) < (x : Int) := by omega
      have e0 : fol x = 0 := by unfold fol; rw [if_neg (by omega)]
      rw [e0]
      go_enter Try.func23, Try.ntmps23
      go_wp2
      go_ret
      exact ⟨rfl, rfl⟩
    · have hd2 : ¬ (127 : Int) < (x : Int) := by omega
      have e0 : fol x = x - 95 := by unfold fol; rw [if_pos (by omega)]
      rw [e0]
      go_enter Try.func23, Try.ntmps23
      go_wp2
      go_ret
      exact ⟨ret_int (by omega), rfl⟩
abbrev BldI (B b : Nat) (bs : List Value) (w : World) : Prop := Lib.IsBuilder 39 5 B b bs w
theorem bld_lies : liesAt Try.prog Try.prog.depth 39 (2 / Try.prog.cellsOf 39) 0 39 1 = true := by kernel_rfl
set_option maxHeartbeats 1000000 in
set_option maxRecDepth 100000 in
theorem copyCheck_fresh (b : Nat) (w : World) (h0 : w.cell? ⟨b, 0, none⟩ = some (.pointer none)) (hsh : w.shape? b = some (39, 2)) (hfz : w.frozen? ⟨b, 0, none⟩ = false) :
    Calls Try.prog 25 #[.pointer (some ⟨b, 0, none⟩)] w fun e w' => e = .returned (.tuple #[]) ∧ w' = w.setCell ⟨b, 0, none⟩ (.pointer (some ⟨b, 0, none⟩)) := by
  obtain ⟨j, hj, hjs⟩ := Option.map_eq_some_iff.1 bld_size
  have hne := fun w1 => Lib.run_neq_ptr_same (P := Try.prog) (w := w1) ⟨b, 0, none⟩ Try.underlying37 hj
  have hto := Lib.run_to_unsafe (P := Try.prog) w ⟨b, 0, none⟩ Try.underlying37 Try.underlying75 hj (by rw [hjs]; decide) hsh (Nat.zero_lt_succ 1)
  have hfr := Lib.run_from_unsafe (P := Try.prog) w ⟨b, 0, none⟩ Try.underlying75 Try.underlying37 hj hsh bld_lies
  go_enter Try.func25, Try.ntmps25
  go_wp2
  try rw [hto]
  try simp only [Result.andThen]
  try rw [Oper.upon_value]
  try go_wp2
  rw [run_callFunc_extern Try.func36 (by kernel_rfl) (by kernel_rfl) (by kernel_rfl) (e := Extern.AbiNoEscape.same) (by kernel_rfl)]
  rw [Lib.run_noEscape]
  simp only [Result.andThen]
  rw [Oper.upon_value]
  go_wp2
  try rw [hfr]
  try simp only [Result.andThen]
  try rw [Oper.upon_value]
  try go_wp2
  go_end0
  exact ⟨rfl, rfl⟩
theorem copyCheck_any (B b : Nat) (bs : List Value) (w : World) (h : BldI B b bs w) :
    Calls Try.prog 25 #[.pointer (some ⟨b, 0, none⟩)] w fun e w' => e = .returned (.tuple #[]) ∧ (Bld B b bs w' ∧ Below B w w') := by
  rcases h with h | h
  · refine (copyCheck_fresh b w h.cell0 h.shape h.frozen0).mono ?_
    rintro e w' ⟨rfl, rfl⟩
    exact ⟨rfl, h.used _, (Below.refl B w).setCell (p := ⟨b, 0, none⟩) h.1 _⟩
  · refine (copyCheck_used b w h.cell0).mono ?_
    rintro e w' ⟨rfl, rfl⟩
    exact ⟨rfl, h, Below.refl B _⟩
set_option maxHeartbeats 1000000 in
set_option maxRecDepth 100000 in
theorem writeString_I (B b : Nat) (bs : List Value) (s : ByteArray) (w : World) (h : BldI B b bs w) (hlen : bs.length + s.size ≤ 100000000) (hBw : B ≤ w.heap.size) :
    Calls Try.prog 14 #[.pointer (some ⟨b, 0, none⟩), .string s] w fun e w' => e = .returned (.tuple #[.int .i64 s.size, .nilIface]) ∧ Bld B b (bs ++ Lib.strCells s) w' ∧ Below B w w' := by
  obtain ⟨i0, hi, hz0, hz1, hz2⟩ := info_parts A_info
  have hcc := copyCheck_any B b bs w h
  have hs63 : s.size ≤ 9223372036854775807 := by omega
  go_enter Try.func14, Try.ntmps14
  go_upto_region 2 with (go_at_call 25; refine hcc.mono ?_; rintro e w1 ⟨rfl, h1, hb1⟩)
  clear h hcc
  obtain ⟨hB, v, hbk, hown, hne⟩ := h1
  have c0 : w1.cell? ⟨b, 0, none⟩ = some (.pointer (some ⟨b, 0, none⟩)) := by rw [Lib.cell_of_heap hbk]; rfl
  have c1 : w1.cell? ⟨b, 1, none⟩ = some v := by rw [Lib.cell_of_heap hbk]; rfl
  have hsz := hb1.size
  go_wp2_with (at_builtin; refine Lib.wpList_append_own_string _ rfl _ _ 22 9 rfl B 5 i0 bytes_ty string_ty hi hz0 hz1 hz2 _ _ _ rfl hown s rfl ?c3 ?c4 ?c5 ?_)
  case c3 => unfold maxLen; omega
  case c4 => omega
  case c5 => omega
  intro v' w2 hown' hgrow _
  have hlt : b < w1.heap.size := (Array.getElem?_eq_some_iff.1 hbk).1
  have hb2 : w2.heap[b]? = some (.cells #[.pointer (some ⟨b, 0, none⟩), v] 39 (0, 0)) := by
    rw [hgrow.block b hlt (fun e => hne e.symm)]
    exact hbk
  have d0 : w2.cell? ⟨b, 0, none⟩ = some (.pointer (some ⟨b, 0, none⟩)) := by rw [Lib.cell_of_heap hb2]; rfl
  have d1 : w2.cell? ⟨b, 1, none⟩ = some v := by rw [Lib.cell_of_heap hb2]; rfl
  have f1 : w2.frozen? ⟨b, 1, none⟩ = false := Lib.frozen_of_heap hb2 1
  obtain ⟨ao, n', cap, rfl⟩ : ∃ ao n' cap, v' = .slice ao n' cap := by
    rcases hown'.2 with ⟨hv, _⟩ | ⟨g, cap, cur, hv, _⟩
    · exact ⟨_, _, _, hv⟩
    · exact ⟨_, _, _, hv⟩
  go_wp2
  go_ret2
  refine ⟨rfl, ?_, ?_⟩
  · exact Lib.BuilderAt.put (T := 39) (e := 5) hB hb2 (bs' := bs ++ Lib.strCells s) (by simpa [Lib.strCells_length] using hown') (by decide)
  · exact hb1.trans (((Below.refl B w1).grown hgrow (by omega) (fun k hk => (hown.lt k hk).1)).setCell (p := ⟨b, 1, none⟩) hB _)
end Go.Proofs.Ytjbjjiibldlipaa
