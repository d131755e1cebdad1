/- The example that each law of rlp begins with. -/
import Derived.Test.YtjlhnjnoigjjfaaDoorR8
import Derived.Lib.SlBytesConst
namespace Go.Proofs.YtjlhnjnoigjjfaaDoor
open Go.RowKit

theorem range_getD (l : List Nat) : ((List.range l.length).map fun i => l.getD i 0) = l := by
  apply List.ext_getElem (by simp)
  intro i h1 h2
  simp [h2]
theorem PackPost.rdB {it : It} {w w' : World} {e : Ending} (h : PackPost it w e w') (h1 : dep it ≤ 32) (h2 : (enc it).length ≤ 16777216) (h3 : ∀ x ∈ enc it, x < 256) :
    ∃ v, e = .returned (.tuple #[v, .int .i64 0]) ∧ Tch [] w w' ∧ RdB w' v (enc it) := by
  obtain ⟨hT, h⟩ := h
  rw [if_pos ⟨h1, h2⟩] at h
  obtain ⟨b, _, he, hB⟩ := h
  have hr := RdB.blk hB (fun i hi => by
    have : (enc it).getD i 0 = (enc it)[i] := by simp [hi]
    rw [this]; exact h3 _ (List.getElem_mem hi))
  rw [range_getD] at hr
  exact ⟨_, he, hT, hr⟩
theorem num_any (n : Int) (w : World) : Calls Tryd.prog 16 #[.int .i64 n] w fun e w' => e = .returned (.int .i64 n) ∧ w = w' := by
  go_enter Tryd.func16, Tryd.ntmps16
  go_wp2
  go_ret
  exact ⟨rfl, rfl⟩
def dogS : ByteArray := strB [131, 100, 111, 103]
def nilS : ByteArray := strB [192]
theorem dog_eq : (dogS.toList == [131, 100, 111, 103]) = true := by rw [ByteArray.toList_eq]; decide +kernel
theorem nil_eq : (nilS.toList == [192]) = true := by rw [ByteArray.toList_eq]; decide +kernel
theorem enc_dog : enc (.str [100, 111, 103]) = [131, 100, 111, 103] := by rw [enc_str]; decide
theorem enc_nil : enc (.lst []) = [192] := by rw [enc_lst]; simp [encs, hd]
set_option maxHeartbeats 2000000 in
set_option maxRecDepth 100000 in
theorem alive_any (w : World) : Calls Tryd.prog 4 #[] w fun e w' => e = .returned (.bool true) ∧ Tch [] w w' := by
  have h1 : ∀ W b (t : TypeId) fr, W.heap[b]? = some (.cells #[.int .u8 100, .int .u8 111, .int .u8 103] t fr) → Calls Tryd.prog 15 #[.agg #[.bool false, .slice (some ⟨b, 0, none⟩) 3 3, .slice none 0 0]] W fun e w' => ∃ v, e = .returned (.tuple #[v, .int .i64 0]) ∧ Tch [] W w' ∧ RdB w' v [131, 100, 111, 103] := fun W b t fr hB => by
    refine (pack_any 1 _ _ _ (.str [100, 111, 103]) W ?_).mono fun e w' h => ?_
    · unfold ItC
      refine ⟨rfl, ⟨_, _, rfl, Nat.le_refl _, by decide, fun _ => ⟨b, 0, rfl, (Array.getElem?_eq_some_iff.1 hB).1, by simp, fun i hi => ?_⟩⟩, by decide⟩
      rw [Nat.zero_add, cell_of_row W b i _ t fr hB]
      match i, hi with
      | 0, _ => rfl
      | 1, _ => rfl
      | 2, _ => rfl
    · have := h.rdB (by rw [dep_str]; omega) (by rw [enc_dog]; decide) (by rw [enc_dog]; decide)
      rw [enc_dog] at this
      exact this
  have h2 : ∀ W, Calls Tryd.prog 15 #[.agg #[.bool true, .slice none 0 0, .slice none 0 0]] W fun e w' => ∃ v, e = .returned (.tuple #[v, .int .i64 0]) ∧ Tch [] W w' ∧ RdB w' v [192] := fun W => by
    refine (pack_any 1 _ _ _ (.lst []) W ?_).mono fun e w' h => ?_
    · unfold ItC
      exact ⟨rfl, none, 0, rfl, ⟨Nat.le_refl _, by decide⟩, fun h => absurd rfl h⟩
    · have := h.rdB (by rw [dep_lst]; simp [deps]) (by rw [enc_nil]; decide) (by rw [enc_nil]; decide)
      rw [enc_nil] at this
      exact this
  have H1 := Lib.hid h1
  have H2 := Lib.hid h2
  clear h1 h2
  have hd1 := dog_eq
  have kc := fun (w : World) (C : Array Value) (n c : Nat) => Lib.run_convert_bytes_const (P := Tryd.prog) w 24 5 C n c bytes_ty byte_ty
  have hd2 := nil_eq
  go_enter Tryd.func4, Tryd.ntmps4
  go_wp2_with (first
    | (go_at_call 15; refine (H1.out _ _ _ _ (Go.heap_alloc_new w _)).mono ?_; rintro e w1 ⟨v1, rfl, hT1, hv1⟩; clear H1)
    | (go_at_call 15; refine (H2.out w1).mono ?_; rintro e w2 ⟨v2, rfl, hT2, hv2⟩; have k1 := conv_rd (hv1.tch hT2 (by simp)); have k2 := conv_rd hv2; rw [show strB [131, 100, 111, 103] = dogS from rfl] at k1; rw [show strB [192] = nilS from rfl] at k2)
    | (go_at_call 16; refine (num_any _ _).mono ?_; rintro e w3 ⟨rfl, rfl⟩))
  go_ret
  exact ⟨rfl, ((Tch.refl _ _).alloc _).trans (hT1.trans hT2)⟩
end Go.Proofs.YtjlhnjnoigjjfaaDoor
