/- Items of a trie: how long, how deep; text, list, packed, reference. -/
import Derived.Test.YtdjhjgockgmbkaaGreatDoorM38
set_option linter.unusedVariables false
set_option linter.unusedSimpArgs false
namespace Go.Proofs.YtdjhjgockgmbkaaGreatDoor
open Go.RowKit Tr

section
variable {H : List Nat → List Nat} (hH : ∀ l, (H l).length = 32)
include hH
end
/-- Blocks that hold no byte. -/
def OffX (X : List Nat) (w : World) : Prop := ∀ x ∈ X, ∃ t c, Blk w x t c ∧ NoB c
theorem OffX.tch {X : List Nat} {w w' : World} (h : OffX X w) (hT : Tch [] w w') : OffX X w' := fun x hx => by
  obtain ⟨t, c, h1, h2⟩ := h x hx
  exact ⟨t, c, hT.blk h1 (by simp), h2⟩
theorem OffX.cons {X : List Nat} {w : World} {b : Nat} {t : TypeId} {c : Array Value} (h : OffX X w) (hB : Blk w b t c) (hc : NoB c) : OffX (b :: X) w := fun x hx => by
  rcases List.mem_cons.1 hx with rfl | hx
  · exact ⟨t, c, hB, hc⟩
  · exact h x hx
theorem NoB.item (t : Bool) (p q : Option Addr) (n c m d : Nat) : NoB #[.bool t, .slice p n c, .slice q m d] := fun j x hx => by
  match j with
  | 0 => cases hx
  | 1 => cases hx
  | 2 => cases hx
  | k + 3 => simp at hx
/-- What a function that answers an item answers: none of it lies in a block of X. -/
def ItemPost (X : List Nat) (it : It) (w : World) (e : Ending) (w' : World) : Prop :=
  Tch [] w w' ∧ ∃ (t : Bool) (p : Option Addr) (n c : Nat) (q : Option Addr) (m d : Nat), e = .returned (.agg #[.bool t, .slice p n c, .slice q m d]) ∧ ItC X w' (dep it + 1) (.bool t) (.slice p n c) (.slice q m d) it
theorem build_text (p : Option Addr) (n c : Nat) (w : World) : (Instr.build 68 #[(1, .slice p n c)]).run Tryz.prog w = .ok (.agg #[.bool false, .slice p n c, .slice none 0 0]) w := by kernel_rfl
theorem build_list (p : Option Addr) (n c : Nat) (w : World) : (Instr.build 68 #[(0, .bool true), (2, .slice p n c)]).run Tryz.prog w = .ok (.agg #[.bool true, .slice none 0 0, .slice p n c]) w := by kernel_rfl
end Go.Proofs.YtdjhjgockgmbkaaGreatDoor

/- reference. -/
namespace Go.Proofs.YtdjhjgockgmbkaaGreatDoor
open Go.RowKit Tr

/-- A hash, as bytes. -/
def HL (l : List Nat) : List Nat := (List.range 32).map (hashN l)
/-- What item answers, asked of v from world w on. -/
def ItemOK (v : Value) (it : It) (w : World) : Prop := ∀ (Y : List Nat) (w1 : World), Tch [] w w1 → OffX Y w1 → Calls Tryz.prog 103 #[v, (.func (.func 70) #[] #[])] w1 (ItemPost Y it w1)
end Go.Proofs.YtdjhjgockgmbkaaGreatDoor

/- item: leaves and extensions. -/
namespace Go.Proofs.YtdjhjgockgmbkaaGreatDoor
open Go.RowKit Tr

section
variable {a : Act} {w : World} {o : Oper} {Q : Exit → Act → World → Prop}
end
theorem ItemOK.later {v : Value} {it : It} {w w' : World} (h : ItemOK v it w) (hT : Tch [] w w') : ItemOK v it w' := fun Y w1 h1 hY => h Y w1 (hT.trans h1) hY
theorem OffX.lt {X : List Nat} {w : World} (h : OffX X w) : ∀ x ∈ X, x < w.heap.size := fun x hx => by
  obtain ⟨t, c, h1, _⟩ := h x hx
  exact h1.lt
end Go.Proofs.YtdjhjgockgmbkaaGreatDoor

/- The document's PackBody. -/
namespace Go.Proofs.YtdjhjgockgmbkaaGreatDoor
open Go.RowKit
set_option linter.unusedVariables false
set_option maxRecDepth 100000

theorem rBytes_q (p : Option Addr) (n c : Nat) (w : World) : Calls Tryz.prog 31 #[.slice p n c] w fun e w' => e = .returned (.agg #[.bool false, .slice p n c, .slice none 0 0]) ∧ Tch [] w w' := by
  obtain ⟨f0, f1, f2, hti, -⟩ := item_ty
  have hS := St.start w
  have kb := build_text
  go_enter Tryz.func31, Tryz.ntmps31
  go_wp2_with (first
    | (refine st_new hS rfl 68 rfl itemN_zero ?_; clear hS; intro w1 b1 hS)
    | (refine st_store (b := b1) (c' := #[.bool false, .slice p n c, .slice none 0 0]) hS rfl 68 _ _ rfl rfl rfl .head itemN_size rfl rfl (oneN3 rfl rfl rfl) ?_; clear hS; intro w2 hS))
  exact st_post hS 2 68 rfl rfl rfl .head hti rfl itemN_size rfl (fun hT => ⟨rfl, hT⟩)
theorem rList_q (p : Option Addr) (n c : Nat) (w : World) : Calls Tryz.prog 28 #[.slice p n c] w fun e w' => e = .returned (.agg #[.bool true, .slice none 0 0, .slice p n c]) ∧ Tch [] w w' := by
  obtain ⟨f0, f1, f2, hti, -⟩ := item_ty
  have hS := St.start w
  have kb := build_list
  go_enter Tryz.func28, Tryz.ntmps28
  go_wp2_with (first
    | (refine st_new hS rfl 68 rfl itemN_zero ?_; clear hS; intro w1 b1 hS)
    | (refine st_store (b := b1) (c' := #[.bool true, .slice none 0 0, .slice p n c]) hS rfl 68 _ _ rfl rfl rfl .head itemN_size rfl rfl (oneN3 rfl rfl rfl) ?_; clear hS; intro w2 hS))
  exact st_post hS 2 68 rfl rfl rfl .head hti rfl itemN_size rfl (fun hT => ⟨rfl, hT⟩)
theorem buildI4 (p0 p1 p2 p3 : Option Addr) (n0 c0 n1 c1 n2 c2 n3 c3 : Nat) (w : World) : (Instr.buildSlice 66 4 #[(0, .agg #[.bool false, .slice p0 n0 c0, .slice none 0 0]), (1, .agg #[.bool false, .slice p1 n1 c1, .slice none 0 0]), (2, .agg #[.bool false, .slice p2 n2 c2, .slice none 0 0]), (3, .agg #[.bool false, .slice p3 n3 c3, .slice none 0 0])]).run Tryz.prog w = .ok (.slice (some ⟨w.heap.size, 0, none⟩) 4 4) (w.alloc (.cells (iCells [.slice p0 n0 c0, .slice p1 n1 c1, .slice p2 n2 c2, .slice p3 n3 c3]).toArray 68)) := by kernel_rfl
/-- A list of items of bytes in a block of its own. -/
theorem itemsB {X : List Nat} {w : World} {b : Nat} {t : TypeId} {vb : Value} {ys : List Value} {Ls : List (List Nat)} {n : Nat} (hB : Blk w b t (iCells ys).toArray) (hr : RdL X w ys Ls) (hn : n = Ls.length) (hm : ∀ l ∈ Ls, l.length < 4611686018427387904) (hl : Ls.length < 4611686018427387904) :
    ItC [] w 2 (.bool true) vb (.slice (some ⟨b, 0, none⟩) n n) (.lst (Ls.map .str)) := by
  have hlm : (Ls.map It.str).length = Ls.length := List.length_map _
  unfold ItC
  refine ⟨rfl, _, n, by rw [hlm, hn], ⟨by rw [hlm, hn]; exact Nat.le_refl _, by rw [hlm]; exact hl⟩, fun _ => ⟨b, 0, rfl, hB.lt, by simp, fun i hi => ?_⟩⟩
  rw [hlm] at hi
  have hi' : i < ys.length := by rw [hr.1]; exact hi
  obtain ⟨c0, c1, c2⟩ := iCells_get ys i hi'
  refine ⟨.bool false, ys[i], .slice none 0 0, ?_, ?_, ?_, ?_⟩
  · rw [Nat.zero_add]; exact hB.cell (by rw [List.getElem?_toArray]; exact c0)
  · rw [Nat.zero_add]; exact hB.cell (by rw [List.getElem?_toArray]; exact c1)
  · rw [Nat.zero_add]; exact hB.cell (by rw [List.getElem?_toArray]; exact c2)
  · rw [List.getElem_map]
    unfold ItC
    exact ⟨rfl, (hr.2 i hi' hi).mono (by simp), hm _ (List.getElem_mem hi)⟩
theorem rdl4 {X : List Nat} {w : World} {y0 y1 y2 y3 : Value} {l0 l1 l2 l3 : List Nat} (h0 : RdA X w y0 l0) (h1 : RdA X w y1 l1) (h2 : RdA X w y2 l2) (h3 : RdA X w y3 l3) : RdL X w [y0, y1, y2, y3] [l0, l1, l2, l3] := by
  refine ⟨rfl, fun i hi hj => ?_⟩
  match i, hi with
  | 0, _ => exact h0
  | 1, _ => exact h1
  | 2, _ => exact h2
  | 3, _ => exact h3
set_option maxHeartbeats 4000000 in
theorem rpack_no (n : Int) (B R H : List Nat) (w : World) (hn : n < 0) : Calls Tryz.prog 9 #[.agg (bodyC n B R H)] w (APackPost n B R H w) := by
  have hS := St.start w
  have HN := Lib.hid hn
  go_enter Tryz.func9, Tryz.ntmps9
  go_wp2_with (first
    | (refine st_box (L := []) hS rfl 25 _ rfl rfl ?_; clear hS; intro w1 b1 hS)
    | (refine st_x (v := .pointer (some ⟨b1, 0, none⟩)) rfl (x_fa _ _ _ rfl rfl (fa_bd0 b1 _)) ?_)
    | (refine st_x (v := .int .i64 n) rfl (x_cell _ _ rfl rfl ((hS.get .head).cell (bodyC_0 _ _ _ _)) int_aggQ) ?_))
  go_ret2
  exact ⟨hS.frame, by rw [if_pos HN.out]; rfl⟩
set_option maxHeartbeats 4000000 in
theorem rpack_yes (n : Int) (B R H : List Nat) (w : World) (hn : ¬ n < 0) (hmx : n ≤ 9223372036854775807) (hx : Bd.Ok ⟨n.toNat, B, R, H⟩) : Calls Tryz.prog 9 #[.agg (bodyC n B R H)] w (APackPost n B R H w) := by
  have hS := St.start w
  have HN := Lib.hid (And.intro hn (And.intro hx hmx))
  clear hx hmx
  go_enter Tryz.func9, Tryz.ntmps9
  go_upto_region 3 with (first
    | (refine st_box (L := []) hS rfl 25 _ rfl rfl ?_; clear hS; intro w1 b1 hS)
    | (refine st_x (v := .pointer (some ⟨b1, 0, none⟩)) rfl (x_fa _ _ _ rfl rfl (fa_bd0 b1 _)) ?_)
    | (refine st_x (v := .int .i64 n) rfl (x_cell _ _ rfl rfl ((hS.get .head).cell (bodyC_0 _ _ _ _)) int_aggQ) ?_))
  have HB := Lib.hid (fun (w' : World) (h : Tch [] w1 w') => h.blk (hS.get .head) (by simp))
  have HBD := Lib.hid (fun (w' : World) (h : Tch [] w1 w') => show BdAt w' b1 ⟨n.toNat, B, R, H⟩ from ⟨by have hq := HB.out w' h; rw [show ((n.toNat : Nat) : Int) = n by have := HN.out.1; omega]; exact hq, HN.out.2.1⟩)
  have HF := Lib.hid hS.frame
  clear hS
  refine wp_region_held_drew (S := fun w' => Tch [] w1 w') (by kernel_rfl) ((Tch.refl _ _).drew) (fun hC => ?_)
  generalize World.drew w1 = u0 at hC ⊢
  refine held_in (v := .pointer (some ⟨b1, 0, none⟩)) 0 rfl (by kernel_rfl) (by kernel_rfl) (by kernel_rfl) (fun _ _ _ h => h) hC rfl (fun w' hw' => x_fa _ _ _ rfl rfl (fa_bd0 b1 w')) ?_
  try simp only [Act.put, List.setIfInBounds_toArray, List.set_cons_zero, List.set_cons_succ]
  refine held_in (v := .int .i64 n) 1 rfl (by kernel_rfl) (by kernel_rfl) (by kernel_rfl) (fun _ _ _ h => h) hC rfl (fun w' hw' => x_cell _ _ rfl rfl ((HB.out w' hw').cell (bodyC_0 _ _ _ _)) int_aggQ) ?_
  try simp only [Act.put, List.setIfInBounds_toArray, List.set_cons_zero, List.set_cons_succ]
  refine held_in (v := .pointer (some ⟨b1, 1, none⟩)) 3 rfl (by kernel_rfl) (by kernel_rfl) (by kernel_rfl) (fun _ _ _ h => h) hC rfl (fun w' hw' => x_fa _ _ _ rfl rfl (fa_bd1 b1 w')) ?_
  try simp only [Act.put, List.setIfInBounds_toArray, List.set_cons_zero, List.set_cons_succ]
  refine held_in (v := .agg (wv B)) 4 rfl (by kernel_rfl) (by kernel_rfl) (by kernel_rfl) (fun _ _ _ h => h) hC rfl (fun w' hw' => x_wordAt _ rfl rfl (HB.out w' hw') (fun i hi => bodyC_b _ _ _ _ hi) wordN_type wordN_size) ?_
  try simp only [Act.put, List.setIfInBounds_toArray, List.set_cons_zero, List.set_cons_succ]
  refine held_in (v := .pointer (some ⟨b1, 33, none⟩)) 6 rfl (by kernel_rfl) (by kernel_rfl) (by kernel_rfl) (fun _ _ _ h => h) hC rfl (fun w' hw' => x_fa _ _ _ rfl rfl (fa_bd2 b1 w')) ?_
  try simp only [Act.put, List.setIfInBounds_toArray, List.set_cons_zero, List.set_cons_succ]
  refine held_in (v := .slice (some ⟨b1, 33, none⟩) 32 32) 7 rfl (by kernel_rfl) (by kernel_rfl) (by kernel_rfl) (fun _ _ _ h => h) hC rfl (fun w' hw' => x_sl _ _ rfl rfl (sl_word b1 33 w')) ?_
  try simp only [Act.put, List.setIfInBounds_toArray, List.set_cons_zero, List.set_cons_succ]
  refine held_in (v := .pointer (some ⟨b1, 65, none⟩)) 9 rfl (by kernel_rfl) (by kernel_rfl) (by kernel_rfl) (fun _ _ _ h => h) hC rfl (fun w' hw' => x_fa _ _ _ rfl rfl (fa_bd3 b1 w')) ?_
  try simp only [Act.put, List.setIfInBounds_toArray, List.set_cons_zero, List.set_cons_succ]
  refine held_in (v := .slice (some ⟨b1, 65, none⟩) 32 32) 10 rfl (by kernel_rfl) (by kernel_rfl) (by kernel_rfl) (fun _ _ _ h => h) hC rfl (fun w' hw' => x_sl _ _ rfl rfl (sl_word b1 65 w')) ?_
  try simp only [Act.put, List.setIfInBounds_toArray, List.set_cons_zero, List.set_cons_succ]
  refine held_one 2 (by kernel_rfl) ?_
  refine held_call (v1 := .int .i64 n) rfl rfl rfl (by rfl) Tryz.call29 (rnum_all n u0 HN.out.2.2) ?_
  rintro e u1 ⟨hT, p0, n0, c0, rfl, hr0⟩
  replace hC := hC.trans hT
  clear hT
  refine ⟨_, rfl, hC, ?_⟩
  try simp only [Act.put, List.setIfInBounds_toArray, List.set_cons_zero, List.set_cons_succ]
  refine held_one 5 (by kernel_rfl) ?_
  refine held_call (v1 := .agg (wv B)) rfl rfl rfl (by rfl) Tryz.call30 (refBig_any B u1 HN.out.2.1.b.1 HN.out.2.1.b.2) ?_
  rintro e u2 ⟨hT, p1, n1, c1, rfl, hr1⟩
  replace hC := hC.trans hT
  replace hr0 := hr0.tch hT
  clear hT
  refine ⟨_, rfl, hC, ?_⟩
  try simp only [Act.put, List.setIfInBounds_toArray, List.set_cons_zero, List.set_cons_succ]
  refine held_one 8 (by kernel_rfl) ?_
  refine held_call (v1 := .slice (some ⟨b1, 33, none⟩) 32 32) rfl rfl rfl (by rfl) Tryz.call31 (rBytes_q _ _ _ u2) ?_
  rintro e u3 ⟨rfl, hT⟩
  replace hC := hC.trans hT
  replace hr0 := hr0.tch hT
  replace hr1 := hr1.tch hT
  clear hT
  refine ⟨_, rfl, hC, ?_⟩
  try simp only [Act.put, List.setIfInBounds_toArray, List.set_cons_zero, List.set_cons_succ]
  refine held_one 11 (by kernel_rfl) ?_
  refine held_call (v1 := .slice (some ⟨b1, 65, none⟩) 32 32) rfl rfl rfl (by rfl) Tryz.call31 (rBytes_q _ _ _ u3) ?_
  rintro e u4 ⟨rfl, hT⟩
  replace hC := hC.trans hT
  replace hr0 := hr0.tch hT
  replace hr1 := hr1.tch hT
  clear hT
  refine ⟨_, rfl, hC, ?_⟩
  try simp only [Act.put, List.setIfInBounds_toArray, List.set_cons_zero, List.set_cons_succ]
  refine held_one 12 (by kernel_rfl) ?_
  refine held_build (c := (iCells [.slice p0 n0 c0, .slice p1 n1 c1, .slice (some ⟨b1, 33, none⟩) 32 32, .slice (some ⟨b1, 65, none⟩) 32 32]).toArray) (t := 68) rfl rfl rfl (by simp only [List.map_toArray, List.map_cons, List.map_nil]; exact buildI4 _ _ _ _ _ _ _ _ _ _ _ _ _) ?_
  have hTa : Tch [] u4 (u4.alloc (.cells (iCells [.slice p0 n0 c0, .slice p1 n1 c1, .slice (some ⟨b1, 33, none⟩) 32 32, .slice (some ⟨b1, 65, none⟩) 32 32]).toArray 68)) := (Tch.refl _ _).alloc _
  have hB5 := Blk.new u4 68 (iCells [.slice p0 n0 c0, .slice p1 n1 c1, .slice (some ⟨b1, 33, none⟩) 32 32, .slice (some ⟨b1, 65, none⟩) 32 32]).toArray
  replace hC := hC.trans hTa
  replace hr0 := hr0.tch hTa
  replace hr1 := hr1.tch hTa
  refine ⟨hC, ?_⟩
  generalize u4.alloc (.cells (iCells [.slice p0 n0 c0, .slice p1 n1 c1, .slice (some ⟨b1, 33, none⟩) 32 32, .slice (some ⟨b1, 65, none⟩) 32 32]).toArray 68) = u5 at hC hr0 hr1 hB5 hTa ⊢
  try simp only [Act.put, List.setIfInBounds_toArray, List.set_cons_zero, List.set_cons_succ]
  have HI := Lib.hid (fun (w' : World) (h : Tch [] u5 w') => show ItC [] w' 2 (.bool true) (.slice none 0 0) (.slice (some ⟨u4.heap.size, 0, none⟩) 4 4) (Bd.it ⟨n.toNat, B, R, H⟩) from by
    have hx := HN.out.2.1
    refine itemsB (X := []) (n := 4) (h.blk hB5 (by simp)) (rdl4 (hr0.tch h) (hr1.tch h) (bdR w' b1 _ [] (HBD.out w' (hC.trans h)) (by simp)) (bdH w' b1 _ [] (HBD.out w' (hC.trans h)) (by simp))) rfl ?_ (by simp)
    intro l hl
    have h1 := stripZ_le (bytesN n.toNat)
    have h2 := stripZ_le B
    have h3 := hx.b.1
    have h4 := hx.r.1
    have h5 := hx.h.1
    rw [bytesN_len] at h1
    simp only [List.mem_cons, List.not_mem_nil, or_false] at hl
    rcases hl with h | h | h | h
    · rw [h]; omega
    · rw [h]; simp only at h3; omega
    · rw [h]; simp only at h4; omega
    · rw [h]; simp only at h5; omega)
  refine held_one 13 (by kernel_rfl) ?_
  refine held_call (v1 := .slice (some ⟨u4.heap.size, 0, none⟩) 4 4) rfl rfl rfl (by rfl) Tryz.call28 (rList_q _ _ _ u5) ?_
  rintro e u6 ⟨rfl, hT⟩
  have HT6 := Lib.hid hT
  replace hC := hC.trans hT
  clear hT
  refine ⟨_, rfl, hC, ?_⟩
  try simp only [Act.put, List.setIfInBounds_toArray, List.set_cons_zero, List.set_cons_succ]
  refine held_one 14 (by kernel_rfl) ?_
  refine held_call (v1 := .agg #[.bool true, .slice none 0 0, .slice (some ⟨u4.heap.size, 0, none⟩) 4 4]) rfl rfl rfl (by rfl) Tryz.call27 (refPack_yes 2 _ _ _ (Bd.it ⟨n.toNat, B, R, H⟩) u6 (HI.out u6 HT6.out) ⟨by rw [Bd.it_dep]; decide, by have := HN.out.2.1.len; omega⟩) ?_
  rintro e u7 ⟨v, rfl, hT, hv⟩
  replace hC := hC.trans hT
  clear hT
  obtain ⟨pv, nv, cv, rfl⟩ := slice_keep hv
  have HV := Lib.hid hv
  clear hv hr0 hr1 hB5 hTa
  refine ⟨_, rfl, hC, ?_⟩
  try simp only [Act.put, List.setIfInBounds_toArray, List.set_cons_zero, List.set_cons_succ]
  refine held_in (v := .tuple #[.slice pv nv cv, .int .i64 0]) 15 rfl (by kernel_rfl) (by kernel_rfl) (by kernel_rfl) (fun _ _ _ h => h) hC rfl (fun w' hw' => x_val (.inl rfl) rfl) ?_
  try simp only [Act.put, List.setIfInBounds_toArray, List.set_cons_zero, List.set_cons_succ]
  refine held_in (v := .slice pv nv cv) 16 rfl (by kernel_rfl) (by kernel_rfl) (by kernel_rfl) (fun _ _ _ h => h) hC rfl (fun w' hw' => x_extract _ _ rfl rfl rfl) ?_
  try simp only [Act.put, List.setIfInBounds_toArray, List.set_cons_zero, List.set_cons_succ]
  refine held_in (v := .int .i64 0) 17 rfl (by kernel_rfl) (by kernel_rfl) (by kernel_rfl) (fun _ _ _ h => h) hC rfl (fun w' hw' => x_extract _ _ rfl rfl rfl) ?_
  try simp only [Act.put, List.setIfInBounds_toArray, List.set_cons_zero, List.set_cons_succ]
  refine held_in (v := .slice pv nv cv) 18 rfl (by kernel_rfl) (by kernel_rfl) (by kernel_rfl) (fun _ _ _ h => h) hC rfl (fun w' hw' => x_val (.inr rfl) rfl) ?_
  try simp only [Act.put, List.setIfInBounds_toArray, List.set_cons_zero, List.set_cons_succ]
  refine held_in (v := .int .i64 0) 19 rfl (by kernel_rfl) (by kernel_rfl) (by kernel_rfl) (fun _ _ _ h => h) hC rfl (fun w' hw' => x_val (.inr rfl) rfl) ?_
  try simp only [Act.put, List.setIfInBounds_toArray, List.set_cons_zero, List.set_cons_succ]
  refine wpAnyH_done (by kernel_rfl) ?_ _
  have HC := Lib.hid hC
  clear hC HI
  go_wp2
  go_ret2
  refine ⟨HF.out.trans HC.out, ?_⟩
  rw [if_neg (by have := HN.out.1; omega)]
  exact ⟨_, rfl, HV.out⟩
end Go.Proofs.YtdjhjgockgmbkaaGreatDoor
