/- The hash of parts that lie in a row; the example that the laws begin with. -/
import Derived.Test.YtaofhbnnldkegaaK16
import Derived.Test.YtaofhbnnldkegaaKt
namespace Go.Proofs.Ytaofhbnnldkegaa
open Go.RowKit

theorem RdB.part {w : World} {v : Value} {l : List Nat} (h : RdB w v l) (hl : l.length < 1000000) : PartAt w v l := by
  obtain ⟨p, c, h1, h2, h3, h4⟩ := h
  refine ⟨p, c, h1, h2, hl, h3, fun hn => ?_⟩
  obtain ⟨b, o, h5, h6, h7⟩ := h4 hn
  exact ⟨b, o, h5, h6, fun i hi => ⟨h7 i hi, getD_lt h3 i⟩⟩
theorem cat_list : ∀ (ls : List (List Nat)) (n : Nat), n ≤ ls.length → cat (fun i => ls.getD i []) n = (ls.take n).flatten
  | ls, 0, _ => by simp [cat]
  | ls, n + 1, h => by
    show cat _ n ++ ls.getD n [] = _
    rw [cat_list ls n (by omega), List.take_succ_eq_append_getElem (show n < ls.length by omega), List.flatten_append]
    simp [List.getD_eq_getElem?_getD, List.getElem?_eq_getElem (show n < ls.length by omega)]
/-- The hash of parts that stand in a row of memory. -/
theorem sum_parts (bl : Nat) (ls : List (List Nat)) (w : World) (hn : ls.length < 1000000) (hlt : bl < w.heap.size) (h : ∀ i, i < ls.length → ∃ v, w.cell? ⟨bl, i, none⟩ = some v ∧ RdB w v (ls.getD i []) ∧ (ls.getD i []).length < 1000000) (c : Nat) :
    Calls Try.prog 8 #[.slice (some ⟨bl, 0, none⟩) ls.length c] w fun e w' => e = .returned (.agg (wf (hashN ls.flatten))) ∧ Tch [] w w' := by
  have := sum_any bl 0 ls.length c (fun i => ls.getD i []) w hn (fun _ => hlt) (fun i hi => by
    obtain ⟨v, h1, h2, h3⟩ := h i hi
    exact ⟨v, by rw [Nat.zero_add]; exact h1, h2.part h3⟩) (some ⟨bl, 0, none⟩) (fun _ => rfl)
  rw [cat_list ls ls.length (Nat.le_refl _), List.take_length] at this
  exact this
theorem sum_none (w : World) : Calls Try.prog 8 #[.slice none 0 0] w fun e w' => e = .returned (.agg (wf (hashN []))) ∧ Tch [] w w' :=
  sum_any 0 0 0 0 (fun _ => []) w (by decide) (by omega) (fun i hi => by omega) none (by omega)
/-- Of one part. -/
theorem sum_one (bl : Nat) (v : Value) (l : List Nat) (w : World) (hc : w.cell? ⟨bl, 0, none⟩ = some v) (hlt : bl < w.heap.size) (hv : RdB w v l) (hl : l.length < 1000000) :
    Calls Try.prog 8 #[.slice (some ⟨bl, 0, none⟩) 1 1] w fun e w' => e = .returned (.agg (wf (hashN l))) ∧ Tch [] w w' := by
  have := sum_parts bl [l] w (show 1 < 1000000 by decide) hlt (fun i hi => by
    obtain rfl : i = 0 := by simpa using hi
    exact ⟨v, hc, hv, hl⟩) 1
  simpa using this
theorem hash_rd {w : World} {b : Nat} {t : TypeId} (l : List Nat) (h : Blk w b t (wf (hashN l))) : RdB w (.slice (some ⟨b, 0, none⟩) 32 32) ((List.range 32).map (hashN l)) := by
  rw [← bc_wf] at h
  exact RdB.blk h (fun i _ => outN_lt _ i)
theorem hash_none_list : (List.range 32).map (hashN []) = [197, 210, 70, 1, 134, 247, 35, 60, 146, 126, 125, 178, 220, 199, 3, 192, 229, 0, 182, 83, 202, 130, 39, 59, 123, 250, 216, 4, 93, 133, 164, 112] := by
  apply List.ext_getElem?
  intro i
  by_cases hi : i < 32
  · rw [List.getElem?_map, List.getElem?_range hi, Option.map_some, hash_none i hi]
    have : i < ([197, 210, 70, 1, 134, 247, 35, 60, 146, 126, 125, 178, 220, 199, 3, 192, 229, 0, 182, 83, 202, 130, 39, 59, 123, 250, 216, 4, 93, 133, 164, 112] : List Nat).length := hi
    rw [List.getD_eq_getElem?_getD, List.getElem?_eq_getElem this]; rfl
  · rw [List.getElem?_eq_none (by simp; omega), List.getElem?_eq_none (by simp; omega)]
theorem hash_abc_list : (List.range 32).map (hashN [97, 98, 99]) = [78, 3, 101, 122, 234, 69, 169, 79, 199, 212, 123, 168, 38, 200, 214, 103, 192, 209, 230, 227, 58, 100, 160, 54, 236, 68, 245, 143, 161, 45, 108, 69] := by
  apply List.ext_getElem?
  intro i
  by_cases hi : i < 32
  · rw [List.getElem?_map, List.getElem?_range hi, Option.map_some, hash_abc i hi]
    have : i < ([78, 3, 101, 122, 234, 69, 169, 79, 199, 212, 123, 168, 38, 200, 214, 103, 192, 209, 230, 227, 58, 100, 160, 54, 236, 68, 245, 143, 161, 45, 108, 69] : List Nat).length := hi
    rw [List.getD_eq_getElem?_getD, List.getElem?_eq_getElem this]; rfl
  · rw [List.getElem?_eq_none (by simp; omega), List.getElem?_eq_none (by simp; omega)]
def noneS : ByteArray := ⟨([48, 120, 99, 53, 100, 50, 52, 54, 48, 49, 56, 54, 102, 55, 50, 51, 51, 99, 57, 50, 55, 101, 55, 100, 98, 50, 100, 99, 99, 55, 48, 51, 99].append [48, 101, 53, 48, 48, 98, 54, 53, 51, 99, 97, 56, 50, 50, 55, 51, 98, 55, 98, 102, 97, 100, 56, 48, 52, 53, 100, 56, 53, 97, 52, 55, 48]).toArray⟩
def abcS : ByteArray := ⟨([48, 120, 52, 101, 48, 51, 54, 53, 55, 97, 101, 97, 52, 53, 97, 57, 52, 102, 99, 55, 100, 52, 55, 98, 97, 56, 50, 54, 99, 56, 100, 54, 54].append [55, 99, 48, 100, 49, 101, 54, 101, 51, 51, 97, 54, 52, 97, 48, 51, 54, 101, 99, 52, 52, 102, 53, 56, 102, 97, 49, 50, 100, 54, 99, 52, 53]).toArray⟩
theorem none_txt : (⟨(txt [197, 210, 70, 1, 134, 247, 35, 60, 146, 126, 125, 178, 220, 199, 3, 192, 229, 0, 182, 83, 202, 130, 39, 59, 123, 250, 216, 4, 93, 133, 164, 112]).toArray⟩ : ByteArray) = noneS := by decide +kernel
theorem abc_txt : (⟨(txt [78, 3, 101, 122, 234, 69, 169, 79, 199, 212, 123, 168, 38, 200, 214, 103, 192, 209, 230, 227, 58, 100, 160, 54, 236, 68, 245, 143, 161, 45, 108, 69]).toArray⟩ : ByteArray) = abcS := by decide +kernel
theorem slice_all {P : Program} {ty n e b : Nat} (hu : P.underlying ty = some (.array n e)) (he : (P.info? e).map (·.size) = some 1) (hn : n ≠ 0) (w : World) :
    (Instr.sliceAt ty (.pointer (some ⟨b, 0, none⟩)) none none none).run P w = .ok (.slice (some ⟨b, 0, none⟩) n n) w := by
  have hadd : (⟨b, 0, none⟩ : Addr).add (0 * 1) = ⟨b, 0, none⟩ := rfl
  have h1 : (sizeOf e).run P w = .ok 1 w := by
    cases hq : P.info? e with
    | none => simp [hq] at he
    | some i =>
      have hs : i.size = 1 := by simpa [hq] using he
      simp [sizeOf, typeInfo, hq, hs]
  simp only [Instr.sliceAt, Sem.run_bind, run_underlying hu w, Result.andThen_ok, Instr.sureAddr, Instr.sliceBounds, Sem.run_pure, h1, hadd, if_false, hn, Nat.sub_zero]
theorem abc_call (W : World) : Calls Try.prog 8 #[.slice (some ⟨W.heap.size + 1, 0, none⟩) 1 1] ((W.alloc (.cells #[.int .u8 97, .int .u8 98, .int .u8 99] 5 (3, 4))).alloc (.cells #[.slice (some ⟨W.heap.size, 0, none⟩) 3 3] 24)) fun e w' => e = .returned (.agg (wf (hashN [97, 98, 99]))) ∧ Tch [] W w' := by
  have hs : (W.alloc (.cells #[.int .u8 97, .int .u8 98, .int .u8 99] 5 (3, 4))).heap.size = W.heap.size + 1 := Array.size_push _
  have h1 : ((W.alloc (.cells #[.int .u8 97, .int .u8 98, .int .u8 99] 5 (3, 4))).alloc (.cells #[.slice (some ⟨W.heap.size, 0, none⟩) 3 3] 24)).heap[W.heap.size]? = some (.cells #[.int .u8 97, .int .u8 98, .int .u8 99] 5 (3, 4)) := (Below.heap_alloc _ _ _ (by rw [hs]; omega)).trans (Go.heap_alloc_new W _)
  have h2 : Blk ((W.alloc (.cells #[.int .u8 97, .int .u8 98, .int .u8 99] 5 (3, 4))).alloc (.cells #[.slice (some ⟨W.heap.size, 0, none⟩) 3 3] 24)) (W.heap.size + 1) 24 #[.slice (some ⟨W.heap.size, 0, none⟩) 3 3] := by
    have := Blk.new (W.alloc (.cells #[.int .u8 97, .int .u8 98, .int .u8 99] 5 (3, 4))) 24 #[.slice (some ⟨W.heap.size, 0, none⟩) 3 3]
    rw [hs] at this
    exact this
  refine (sum_one _ _ [97, 98, 99] _ (h2.cell (j := 0) rfl) h2.lt ?_ (by decide)).mono fun e w' h => ⟨h.1, (((Tch.refl [] W).alloc _).alloc _).trans h.2⟩
  refine ⟨_, _, rfl, Nat.le_refl _, by decide, fun _ => ⟨_, _, rfl, (Array.getElem?_eq_some_iff.1 h1).1, fun i hi => ?_⟩⟩
  rw [Nat.zero_add, Lib.cell_of_heap h1]
  match i, hi with
  | 0, _ => rfl
  | 1, _ => rfl
  | 2, _ => rfl
theorem slice_word (b : Nat) (w : World) : (Instr.sliceAt 26 (.pointer (some ⟨b, 0, none⟩)) none none none).run Try.prog w = .ok (.slice (some ⟨b, 0, none⟩) 32 32) w := slice_all word_type u8_size (by decide) w
theorem k_slw {o : Oper} {a : Act} {ops : Array Oper} {rest : List Oper} {C : World → Prop} {Q : Act → Prop} {b : Nat} (hw : Region.wanted o (yielded ops a.tmps) = true) (x : Operand) (ho : o.op = .slice 26 x none none none) (hx : a.eval x = .pointer (some ⟨b, 0, none⟩))
    (h : KQ ops C Q rest (a.put o.dst (.slice (some ⟨b, 0, none⟩) 32 32))) : KQ ops C Q (o :: rest) a :=
  k_pure hw (fun w => by unfold execOp; simp only [ho, hx, Option.map_none]; show Sem.run _ _ w = _; simp only [Sem.run_bind, slice_word b w, Result.andThen_ok]; rfl) h
set_option maxHeartbeats 4000000 in
set_option maxRecDepth 100000 in
theorem alive_any (w : World) : Calls Try.prog 6 #[] w fun e w' => e = .returned (.bool true) ∧ Tch [] w w' := by
  have hS := St.start w
  have kc := fun (w : World) (C : Array Value) (n c : Nat) => Lib.run_convert_bytes_const (P := Try.prog) w 24 5 C n c bytes_ty byte_ty
  go_enter Try.func6, Try.ntmps6
  go_upto_region 2 with (first
    | (go_at_call 8; go_must (refine (sum_none _).mono ?_; rintro e w1 ⟨rfl, hT1⟩; replace hS := hS.call hT1; clear hT1))
    | (refine st_new hS rfl 26 rfl word_zero ?_; clear hS; intro w2 b1 hS)
    | (refine st_store (b := b1) (c' := wf (hashN [])) hS rfl 26 _ _ rfl rfl rfl .head word_size (wf_size _) (wf_size _) (wf_one _) ?_; clear hS; intro w3 hS))
  go_upto_region 3 with (first
    | (go_at_call 8; go_must (refine (abc_call _).mono ?_; rintro e w4 ⟨rfl, hT4⟩; replace hS := hS.call hT4; clear hT4))
    | (refine st_new hS rfl 26 rfl word_zero ?_; clear hS; intro w5 b2 hS)
    | (refine st_store (b := b2) (c' := wf (hashN [97, 98, 99])) hS rfl 26 _ _ rfl rfl rfl .head word_size (wf_size _) (wf_size _) (wf_one _) ?_; clear hS; intro w6 hS))
  have r1 := (hash_rd [] (hS.get (.tail .head)))
  have r2 := (hash_rd [97, 98, 99] (hS.get .head))
  rw [hash_none_list] at r1
  rw [hash_abc_list] at r2
  obtain ⟨wz, hwz⟩ : ∃ wz, wz = w6 := ⟨_, rfl⟩
  rw [← hwz] at r1 r2
  have T1 := Lib.hid (fun (w' : World) (h : Tch [] wz w') => refText_any _ _ w' (by decide) (r1.tch h (by simp)))
  have T2 := Lib.hid (fun (w' : World) (h : Tch [] wz w') => refText_any _ _ w' (by decide) (r2.tch h (by simp)))
  rw [none_txt] at T1
  rw [abc_txt] at T2
  have HF := Lib.hid hS.frame
  subst hwz
  clear r1 r2 hS kc
  try simp only [Act.put, List.setIfInBounds_toArray, List.set_cons_zero, List.set_cons_succ]
  refine k_seq (C := fun w' => Tch [] wz w') (Tch.refl _ _) ?_
  refine k_slw (b := b1) rfl _ rfl rfl ?_; try simp only [Act.put, List.setIfInBounds_toArray, List.set_cons_zero, List.set_cons_succ]
  refine k_callC1 rfl rfl rfl Try.call9 (fun w' h => (T1.out w' h).mono fun e w'' h2 => ⟨h2.1, h.trans h2.2⟩) ?_; try simp only [Act.put, List.setIfInBounds_toArray, List.set_cons_zero, List.set_cons_succ]
  refine k_strS (s := noneS) rfl _ _ _ rfl rfl rfl ?_; try simp only [Act.put, List.setIfInBounds_toArray, List.set_cons_zero, List.set_cons_succ]
  refine k_boolm rfl _ rfl rfl ?_; try simp only [Act.put, List.setIfInBounds_toArray, List.set_cons_zero, List.set_cons_succ]
  refine k_slw (b := b2) rfl _ rfl rfl ?_; try simp only [Act.put, List.setIfInBounds_toArray, List.set_cons_zero, List.set_cons_succ]
  refine k_callC1 rfl rfl rfl Try.call9 (fun w' h => (T2.out w' h).mono fun e w'' h2 => ⟨h2.1, h.trans h2.2⟩) ?_; try simp only [Act.put, List.setIfInBounds_toArray, List.set_cons_zero, List.set_cons_succ]
  refine k_strS (s := abcS) rfl _ _ _ rfl rfl rfl ?_; try simp only [Act.put, List.setIfInBounds_toArray, List.set_cons_zero, List.set_cons_succ]
  refine k_pickT rfl _ _ _ rfl rfl rfl ?_; try simp only [Act.put, List.setIfInBounds_toArray, List.set_cons_zero, List.set_cons_succ]
  refine k_boola rfl _ rfl rfl ?_; try simp only [Act.put, List.setIfInBounds_toArray, List.set_cons_zero, List.set_cons_succ]
  refine k_end ?_
  intro w8 hT8
  go_wp2
  go_ret
  exact ⟨rfl, HF.out.trans hT8⟩
end Go.Proofs.Ytaofhbnnldkegaa
