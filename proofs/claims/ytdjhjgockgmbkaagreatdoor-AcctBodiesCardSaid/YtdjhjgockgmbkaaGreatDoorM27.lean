/- Num of both, off given blocks. -/
import Derived.Test.YtdjhjgockgmbkaaGreatDoorM26
set_option linter.unusedVariables false
set_option linter.unusedSimpArgs false
namespace Go.Proofs.YtdjhjgockgmbkaaGreatDoor
open Go.RowKit

theorem lt_cons {X : List Nat} {b s t : Nat} (hb : b < s) (hX : ∀ x ∈ X, x < t) (hs : t ≤ s) : ∀ x ∈ b :: X, x < s := by
  intro x hx
  rcases List.mem_cons.1 hx with h | h
  · rw [h]; exact hb
  · exact Nat.lt_of_lt_of_le (hX x h) hs
set_option maxHeartbeats 2000000 in
set_option maxRecDepth 100000 in
theorem pnum_anyX (X : List Nat) (n : Int) (W : List Nat) (w : World) (hX : ∀ x ∈ X, x < w.heap.size) (hn : W.length = 32) (hl : ∀ x ∈ W, x < 256)
    (HO : ∀ (k : Int) w', k = (n.toNat : Int) → Calls Tryz.prog 116 #[.int .i64 k] w' (fun e w'' => e = .returned (.agg (wv W)) ∧ Tch [] w' w'')) :
    Calls Tryz.prog 88 #[.int .i64 n] w (BytesPost X (stripZ W) w) := by
  obtain ⟨f0, f1, f2, hty, _⟩ := item_ty
  have hS := St.start w
  have HN := Lib.hid (And.intro hn hl)
  have HC := Lib.hid HO
  have HX := Lib.hid hX
  clear hn hl HO hX
  go_enter Tryz.func88, Tryz.ntmps88
  go_wp2_with (first
    | (refine st_new (L := []) hS rfl 68 rfl itemN_zero ?_; clear hS; intro w2 b2 hS)
    | (go_at_call 116; go_must (refine (HC.out _ _ (by omega)).mono ?_; rintro e w3 ⟨rfl, hT3⟩; replace hS := hS.call hT3; clear hT3))
    | (go_at_call 46; go_must (refine (big_rlpF (b2 :: X) W _ (lt_cons (hS.get .head).lt HX.out hS.frame.size) HN.out.1 HN.out.2).mono ?_; rintro e w4 ⟨hT4, p3, n3, c3, rfl, hr⟩; replace hS := hS.call hT4; clear hT4; have HR := Lib.hid hr; clear hr))
    | (refine arm_store (b := b2) (c := #[.bool false, .slice p3 n3 c3, .slice none 0 0]) (w' := w4.setRow b2 #[.bool false, .slice p3 n3 c3, .slice none 0 0]) rfl 68 _ _ rfl rfl rfl ((hS.get .head).store itemN_size (by rfl) (by rfl) (oneN3 rfl rfl rfl)) ?_))
  all_goals
    have hO := Only.setRow w4 b2 #[.bool false, .slice p3 n3 c3, .slice none 0 0]
    have hS4 := hS.upd .head hO ((hS.get .head).row _)
    refine post_cell 2 68 rfl rfl rfl (hS4.get .head) hty rfl itemN_size rfl ?_
    exact ⟨hS4.frame, _, _, _, rfl, ((HR.out.tch ((Tch.refl (b2 :: X) w4).only hO (.inr (by simp)))).mono (fun x hx => .inl (List.mem_cons_of_mem _ hx)))⟩
theorem pnum_allX (X : List Nat) (n : Int) (w : World) (hX : ∀ x ∈ X, x < w.heap.size) (hn : n ≤ 9223372036854775807) : Calls Tryz.prog 88 #[.int .i64 n] w (BytesPost X (stripZ (bytesN n.toNat)) w) :=
  pnum_anyX X n _ w hX (bytesN_len _) (bytesN_lt _) fun k w' hk => by
    have h := of_any k (by omega) w'
    rw [wv_bytesN, show n.toNat = wint k by rw [hk, wint_nat (by unfold M256; omega)]]
    exact h
end Go.Proofs.YtdjhjgockgmbkaaGreatDoor

/- acct.parts and acct.show: the fields of a body, and the item of each. -/
namespace Go.Proofs.YtdjhjgockgmbkaaGreatDoor
open Go.RowKit
set_option linter.unusedVariables false

set_option maxHeartbeats 2000000 in
set_option maxRecDepth 100000 in
theorem parts_any (b : Nat) (w : World) : Calls Tryz.prog 59 #[.pointer (some ⟨b, 0, none⟩)] w fun e w' => e = .returned (.agg (partsC b)) ∧ Tch [] w w' := by
  have hS := St.start w
  go_enter Tryz.func59, Tryz.ntmps59
  go_upto_region 1 with (first
    | (refine st_new (L := []) hS rfl 121 rfl parts_zero ?_; clear hS; intro w2 b2 hS))
  refine k_region_head (C := fun w' => St [] w w' [(b2, 121, #[.nilIface, .nilIface, .nilIface, .nilIface])]) 17 (by kernel_rfl) (by kernel_rfl) hS.drew ?_
  simp only [List.take_succ_cons, List.take_zero, List.drop_succ_cons, List.drop_zero]
  refine k_ptr ⟨b, 0, none⟩ rfl _ rfl rfl ?_; try simp only [Act.put, List.setIfInBounds_toArray, List.set_cons_zero, List.set_cons_succ]
  refine k_nil ⟨b, 0, none⟩ rfl _ rfl rfl ?_; try simp only [Act.put, List.setIfInBounds_toArray, List.set_cons_zero, List.set_cons_succ]
  refine k_in (v := .pointer (some ⟨b, 0, none⟩)) rfl (fun w' _ => x_fa _ _ _ rfl rfl (fa_bd0 b w')) ?_; try simp only [Act.put, List.setIfInBounds_toArray, List.set_cons_zero, List.set_cons_succ]
  refine k_in (v := .iface 171 (.pointer (some ⟨b, 0, none⟩))) rfl (fun w' _ => x_mkI _ _ rfl rfl (mkI_count b 0 w')) ?_; try simp only [Act.put, List.setIfInBounds_toArray, List.set_cons_zero, List.set_cons_succ]
  refine k_ptr ⟨b, 0, none⟩ rfl _ rfl rfl ?_; try simp only [Act.put, List.setIfInBounds_toArray, List.set_cons_zero, List.set_cons_succ]
  refine k_nil ⟨b, 0, none⟩ rfl _ rfl rfl ?_; try simp only [Act.put, List.setIfInBounds_toArray, List.set_cons_zero, List.set_cons_succ]
  refine k_in (v := .pointer (some ⟨b, 1, none⟩)) rfl (fun w' _ => x_fa _ _ _ rfl rfl (fa_bd1 b w')) ?_; try simp only [Act.put, List.setIfInBounds_toArray, List.set_cons_zero, List.set_cons_succ]
  refine k_in (v := .iface 173 (.pointer (some ⟨b, 1, none⟩))) rfl (fun w' _ => x_mkI _ _ rfl rfl (mkI_amount b 1 w')) ?_; try simp only [Act.put, List.setIfInBounds_toArray, List.set_cons_zero, List.set_cons_succ]
  refine k_ptr ⟨b, 0, none⟩ rfl _ rfl rfl ?_; try simp only [Act.put, List.setIfInBounds_toArray, List.set_cons_zero, List.set_cons_succ]
  refine k_nil ⟨b, 0, none⟩ rfl _ rfl rfl ?_; try simp only [Act.put, List.setIfInBounds_toArray, List.set_cons_zero, List.set_cons_succ]
  refine k_in (v := .pointer (some ⟨b, 33, none⟩)) rfl (fun w' _ => x_fa _ _ _ rfl rfl (fa_bd2 b w')) ?_; try simp only [Act.put, List.setIfInBounds_toArray, List.set_cons_zero, List.set_cons_succ]
  refine k_in (v := .iface 175 (.pointer (some ⟨b, 33, none⟩))) rfl (fun w' _ => x_mkI _ _ rfl rfl (mkI_hash b 33 w')) ?_; try simp only [Act.put, List.setIfInBounds_toArray, List.set_cons_zero, List.set_cons_succ]
  refine k_ptr ⟨b, 0, none⟩ rfl _ rfl rfl ?_; try simp only [Act.put, List.setIfInBounds_toArray, List.set_cons_zero, List.set_cons_succ]
  refine k_nil ⟨b, 0, none⟩ rfl _ rfl rfl ?_; try simp only [Act.put, List.setIfInBounds_toArray, List.set_cons_zero, List.set_cons_succ]
  refine k_in (v := .pointer (some ⟨b, 65, none⟩)) rfl (fun w' _ => x_fa _ _ _ rfl rfl (fa_bd3 b w')) ?_; try simp only [Act.put, List.setIfInBounds_toArray, List.set_cons_zero, List.set_cons_succ]
  refine k_in (v := .iface 175 (.pointer (some ⟨b, 65, none⟩))) rfl (fun w' _ => x_mkI _ _ rfl rfl (mkI_hash b 65 w')) ?_; try simp only [Act.put, List.setIfInBounds_toArray, List.set_cons_zero, List.set_cons_succ]
  refine k_in (v := .agg (partsC b)) rfl (fun w' _ => x_build4 ⟨_, _, _, _, rfl, rfl, rfl, rfl, rfl⟩ (build_parts b w')) ?_; try simp only [Act.put, List.setIfInBounds_toArray, List.set_cons_zero, List.set_cons_succ]
  refine k_end ?_
  clear hS
  intro w3 hS
  go_wp2_with (first
    | (refine st_store (b := b2) (c' := partsC b) hS rfl 121 _ _ rfl rfl rfl .head parts_size rfl rfl (by simp [partsC, Value.oneCell']) ?_; clear hS; intro w4 hS))
  refine post_cell 2 121 rfl rfl rfl (hS.get .head) parts_ty rfl parts_size rfl ?_
  exact ⟨rfl, hS.frame⟩
theorem taCC (v : Value) (w : World) : (Instr.typeAssert (.iface 171 v) 120 171 true).run Tryz.prog w = .ok (.tuple #[v, .bool true]) w := by kernel_rfl
theorem taAC (v : Value) (w : World) : (Instr.typeAssert (.iface 173 v) 120 171 true).run Tryz.prog w = .ok (.tuple #[.pointer none, .bool false]) w := by kernel_rfl
theorem taAA (v : Value) (w : World) : (Instr.typeAssert (.iface 173 v) 120 173 true).run Tryz.prog w = .ok (.tuple #[v, .bool true]) w := by kernel_rfl
theorem taHC (v : Value) (w : World) : (Instr.typeAssert (.iface 175 v) 120 171 true).run Tryz.prog w = .ok (.tuple #[.pointer none, .bool false]) w := by kernel_rfl
theorem taHA (v : Value) (w : World) : (Instr.typeAssert (.iface 175 v) 120 173 true).run Tryz.prog w = .ok (.tuple #[.pointer none, .bool false]) w := by kernel_rfl
theorem taHH (v : Value) (w : World) : (Instr.typeAssert (.iface 175 v) 120 175 true).run Tryz.prog w = .ok (.tuple #[v, .bool true]) w := by kernel_rfl
/-- The bytes of each of the four fields. -/
def bdL (x : Bd) : Nat → List Nat
  | 0 => stripZ (bytesN x.n)
  | 1 => stripZ x.b
  | 2 => x.r
  | _ => x.h
/-- A body in memory. -/
def BdAt (w : World) (b : Nat) (x : Bd) : Prop := Blk w b 25 (bodyC (x.n : Int) x.b x.r x.h) ∧ x.Ok
theorem BdAt.tch {X : List Nat} {w w' : World} {b : Nat} {x : Bd} (h : BdAt w b x) (hT : Tch X w w') (hb : b ∉ X) : BdAt w' b x := ⟨hT.blk h.1 hb, h.2⟩
theorem bdR (w : World) (b : Nat) (x : Bd) (X : List Nat) (h : BdAt w b x) (hb : b ∉ X) : RdA X w (.slice (some ⟨b, 33, none⟩) 32 32) x.r :=
  ⟨_, _, by rw [h.2.r.1], by rw [h.2.r.1]; exact Nat.le_refl _, h.2.r.2, fun _ => ⟨b, 33, rfl, h.1.lt, hb, fun i hi => by
    have hi' : i < 32 := by have := h.2.r.1; omega
    refine h.1.cell ?_
    rw [bodyC_r _ _ _ _ hi']
    exact bc_get hi'⟩⟩
theorem bdH (w : World) (b : Nat) (x : Bd) (X : List Nat) (h : BdAt w b x) (hb : b ∉ X) : RdA X w (.slice (some ⟨b, 65, none⟩) 32 32) x.h :=
  ⟨_, _, by rw [h.2.h.1], by rw [h.2.h.1]; exact Nat.le_refl _, h.2.h.2, fun _ => ⟨b, 65, rfl, h.1.lt, hb, fun i hi => by
    have hi' : i < 32 := by have := h.2.h.1; omega
    refine h.1.cell ?_
    rw [bodyC_h _ _ _ _ hi']
    exact bc_get hi'⟩⟩
def ShowPost (X : List Nat) (L : List Nat) (w : World) (e : Ending) (w' : World) : Prop :=
  Tch [] w w' ∧ ∃ p n c, e = .returned (.agg #[.bool false, .slice p n c, .slice none 0 0]) ∧ RdA X w' (.slice p n c) L
set_option maxHeartbeats 2000000 in
set_option maxRecDepth 100000 in
theorem show_count (X : List Nat) (b : Nat) (x : Bd) (w : World) (h : BdAt w b x) (hX : ∀ y ∈ X, y < w.heap.size) : Calls Tryz.prog 60 #[partV b 0] w (ShowPost X (bdL x 0) w) := by
  obtain ⟨f0, f1, f2, hty, _⟩ := item_ty
  have hS := St.start w
  have HB := Lib.hid h
  have HX := Lib.hid hX
  have hL : bdL x 0 = stripZ (bytesN ((x.n : Int)).toNat) := by simp [bdL]
  rw [hL]
  clear h hX hL
  have HN : Hid (∀ (X : List Nat) (w : World), (∀ x ∈ X, x < w.heap.size) → Calls Tryz.prog 88 #[.int .i64 (x.n : Int)] w (BytesPost X (stripZ (bytesN ((x.n : Int)).toNat)) w)) := Lib.hid fun X w hX => pnum_allX X _ w hX (by have := HB.out.2.n; omega)
  have k1 := taCC
  simp only [partV]
  go_enter Tryz.func60, Tryz.ntmps60
  go_wp2_with (first
    | (refine st_new (L := []) hS rfl 68 rfl itemN_zero ?_; clear hS; intro w2 b2 hS)
    | (refine st_new (L := [(b2, 68, #[.bool false, .slice none 0 0, .slice none 0 0])]) hS rfl 68 rfl itemN_zero ?_; clear hS; intro w3 b3 hS)
    | (refine st_x (v := .int .i64 (x.n : Int)) rfl (x_cell _ _ rfl rfl ((HB.out.1.below hS.frame.below HB.out.1.lt).cell (bodyC_0 _ _ _ _)) count_agg) ?_)
    | (go_at_call 88; go_must (refine (HN.out (b3 :: b2 :: X) _ (lt_cons (hS.get .head).lt (lt_cons (hS.get (.tail .head)).lt HX.out hS.frame.size) (Nat.le_refl _))).mono ?_; rintro e w4 ⟨hT4, p, n, c, rfl, hr⟩; replace hS := hS.call hT4; clear hT4; have HR := Lib.hid hr; clear hr))
    | (refine st_storeO (b := b3) (c' := #[.bool false, .slice p n c, .slice none 0 0]) hS rfl 68 _ _ rfl rfl rfl .head itemN_size (by rfl) (by rfl) (oneN3 rfl rfl rfl) ?_; clear hS; intro w5 hS hO5)
    | (refine st_load hS rfl 68 _ rfl rfl .head hty rfl itemN_size (by rfl) ?_)
    | (refine st_storeO (b := b2) (c' := #[.bool false, .slice p n c, .slice none 0 0]) hS rfl 68 _ _ rfl rfl rfl (.tail .head) itemN_size (by rfl) (by rfl) (oneN3 rfl rfl rfl) ?_; clear hS; intro w6 hS hO6))
  refine post_cell 2 68 rfl rfl rfl (hS.get (.tail .head)) hty rfl itemN_size rfl ?_
  exact ⟨hS.frame, _, _, _, rfl, ((HR.out.tch (((Tch.refl (b3 :: b2 :: X) w4).only hO5 (.inr (by simp))).only hO6 (.inr (by simp)))).mono (fun x hx => .inl (by simp [hx])))⟩
set_option maxHeartbeats 2000000 in
set_option maxRecDepth 100000 in
theorem show_amount (X : List Nat) (b : Nat) (x : Bd) (w : World) (h : BdAt w b x) (hX : ∀ y ∈ X, y < w.heap.size) : Calls Tryz.prog 60 #[partV b 1] w (ShowPost X (bdL x 1) w) := by
  obtain ⟨f0, f1, f2, hty, _⟩ := item_ty
  have hS := St.start w
  have HB := Lib.hid h
  have HX := Lib.hid hX
  have hL : bdL x 1 = stripZ x.b := rfl
  rw [hL]
  clear h hX hL
  have HN : Hid (∀ (X : List Nat) (w : World), (∀ x ∈ X, x < w.heap.size) → Calls Tryz.prog 46 #[.agg (wv x.b)] w (BytesPost X (stripZ x.b) w)) := Lib.hid fun X w hX => big_rlpF X _ w hX HB.out.2.b.1 HB.out.2.b.2
  have k1 := taAC
  have k2 := taAA
  simp only [partV]
  go_enter Tryz.func60, Tryz.ntmps60
  go_wp2_with (first
    | (refine st_new (L := []) hS rfl 68 rfl itemN_zero ?_; clear hS; intro w2 b2 hS)
    | (refine st_new (L := [(b2, 68, #[.bool false, .slice none 0 0, .slice none 0 0])]) hS rfl 68 rfl itemN_zero ?_; clear hS; intro w3 b3 hS)
    | (refine st_x (v := .agg (wv x.b)) rfl (x_wordAt _ rfl rfl (HB.out.1.below hS.frame.below HB.out.1.lt) (fun i hi => bodyC_b _ _ _ _ hi) amount_ty amount_size) ?_)
    | (go_at_call 46; go_must (refine (HN.out (b3 :: b2 :: X) _ (lt_cons (hS.get .head).lt (lt_cons (hS.get (.tail .head)).lt HX.out hS.frame.size) (Nat.le_refl _))).mono ?_; rintro e w4 ⟨hT4, p, n, c, rfl, hr⟩; replace hS := hS.call hT4; clear hT4; have HR := Lib.hid hr; clear hr))
    | (refine st_storeO (b := b3) (c' := #[.bool false, .slice p n c, .slice none 0 0]) hS rfl 68 _ _ rfl rfl rfl .head itemN_size (by rfl) (by rfl) (oneN3 rfl rfl rfl) ?_; clear hS; intro w5 hS hO5)
    | (refine st_load hS rfl 68 _ rfl rfl .head hty rfl itemN_size (by rfl) ?_)
    | (refine st_storeO (b := b2) (c' := #[.bool false, .slice p n c, .slice none 0 0]) hS rfl 68 _ _ rfl rfl rfl (.tail .head) itemN_size (by rfl) (by rfl) (oneN3 rfl rfl rfl) ?_; clear hS; intro w6 hS hO6))
  refine post_cell 2 68 rfl rfl rfl (hS.get (.tail .head)) hty rfl itemN_size rfl ?_
  exact ⟨hS.frame, _, _, _, rfl, ((HR.out.tch (((Tch.refl (b3 :: b2 :: X) w4).only hO5 (.inr (by simp))).only hO6 (.inr (by simp)))).mono (fun x hx => .inl (by simp [hx])))⟩
theorem bytesl_sizeQ : (Tryz.prog.info? 26).map (·.size) = some 1 := by kernel_rfl
set_option maxHeartbeats 2000000 in
set_option maxRecDepth 100000 in
theorem show_hash (X : List Nat) (b o : Nat) (L : List Nat) (w : World) (hb : b < w.heap.size) (h : ∀ (Y : List Nat) (w' : World), Tch [] w w' → b ∉ Y → RdA Y w' (.slice (some ⟨b, o, none⟩) 32 32) L) (hbX : b ∉ X) : Calls Tryz.prog 60 #[.iface 175 (.pointer (some ⟨b, o, none⟩))] w (ShowPost X L w) := by
  obtain ⟨f0, f1, f2, hty, _⟩ := item_ty
  have hS := St.start w
  have HB := Lib.hid h
  clear h
  have k1 := taHC
  have k2 := taHA
  have k3 := taHH
  have k4 := sl_hash b o
  go_enter Tryz.func60, Tryz.ntmps60
  go_wp2_with (first
    | (refine st_new (L := []) hS rfl 68 rfl itemN_zero ?_; clear hS; intro w2 b2 hS)
    | (refine st_new (L := [(b2, 68, #[.bool false, .slice none 0 0, .slice none 0 0])]) hS rfl 68 rfl itemN_zero ?_; clear hS; intro w3 b3 hS)
    | (refine st_x (v := .slice (some ⟨b, o, none⟩) 32 32) rfl (x_sl _ _ rfl rfl (k4 _)) ?_)
    | (refine st_store1v (j := 1) (v := .slice (some ⟨b, o, none⟩) 32 32) hS rfl 26 _ _ rfl rfl rfl rfl bytesl_sizeQ .head (by decide) ?_; clear hS; intro w5 hS)
    | (refine st_load hS rfl 68 _ rfl rfl .head hty rfl itemN_size (by rfl) ?_)
    | (refine st_store (b := b2) (c' := #[.bool false, .slice (some ⟨b, o, none⟩) 32 32, .slice none 0 0]) hS rfl 68 _ _ rfl rfl rfl (.tail .head) itemN_size (by rfl) (by rfl) (oneN3 rfl rfl rfl) ?_; clear hS; intro w6 hS))
  refine post_cell 2 68 rfl rfl rfl (hS.get (.tail .head)) hty rfl itemN_size rfl ?_
  exact ⟨hS.frame, _, _, _, rfl, HB.out X _ hS.frame hbX⟩
theorem show_any (X : List Nat) (b k : Nat) (x : Bd) (w : World) (hk : k < 4) (h : BdAt w b x) (hX : ∀ y ∈ X, y < w.heap.size) (hbX : b ∉ X) : Calls Tryz.prog 60 #[partV b k] w (ShowPost X (bdL x k) w) := by
  match k, hk with
  | 0, _ => exact show_count X b x w h hX
  | 1, _ => exact show_amount X b x w h hX
  | 2, _ => exact show_hash X b 33 _ w h.1.lt (fun Y w' hT hY => bdR w' b x Y (h.tch hT (by simp)) hY) hbX
  | 3, _ => exact show_hash X b 65 _ w h.1.lt (fun Y w' hT hY => bdH w' b x Y (h.tch hT (by simp)) hY) hbX
end Go.Proofs.YtdjhjgockgmbkaaGreatDoor

/- Items that the program's Read makes: a list's own bytes are none. -/
namespace Go.Proofs.YtdjhjgockgmbkaaGreatDoor
open Go.RowKit

/-- Three values that are the cells of an item, a list's own bytes being none; k: how deep it is at most. -/
def ItZ (X : List Nat) (w : World) : Nat → Value → Value → Value → It → Prop
  | 0, _, _, _, _ => False
  | _ + 1, x0, vb, _, .str l => x0 = .bool false ∧ RdA X w vb l ∧ l.length < 4611686018427387904
  | k + 1, x0, vb, vl, .lst l => x0 = .bool true ∧ vb = .slice none 0 0 ∧ ∃ p c, vl = .slice p l.length c ∧ (l.length ≤ c ∧ l.length < 4611686018427387904) ∧ (l ≠ [] → ∃ b o, p = some ⟨b, o, none⟩ ∧ b < w.heap.size ∧ b ∉ X ∧ ∀ i (h : i < l.length), ∃ y0 yb yl, w.cell? ⟨b, o + i * 3, none⟩ = some y0 ∧ w.cell? ⟨b, o + i * 3 + 1, none⟩ = some yb ∧ w.cell? ⟨b, o + i * 3 + 2, none⟩ = some yl ∧ ItZ X w k y0 yb yl l[i])
theorem ItZ.tch {X : List Nat} {w w' : World} (hT : Tch X w w') : ∀ {k : Nat} {x y z : Value} {t : It}, ItZ X w k x y z t → ItZ X w' k x y z t
  | 0, _, _, _, _, h => h.elim
  | _ + 1, _, _, _, .str l, h => by unfold ItZ at h ⊢; exact ⟨h.1, h.2.1.tch hT, h.2.2⟩
  | k + 1, _, _, _, .lst l, h => by
    unfold ItZ at h ⊢
    obtain ⟨h0, hz, p, c, h1, h2, h3⟩ := h
    refine ⟨h0, hz, p, c, h1, h2, fun hl => ?_⟩
    obtain ⟨b, o, h4, h5, h6, h7⟩ := h3 hl
    refine ⟨b, o, h4, Nat.lt_of_lt_of_le h5 hT.size, h6, fun i hi => ?_⟩
    obtain ⟨y0, yb, yl, h8, h9, h10, h11⟩ := h7 i hi
    exact ⟨y0, yb, yl, by rw [hT.cell (p := ⟨b, o + i * 3, none⟩) h5 h6]; exact h8, by rw [hT.cell (p := ⟨b, o + i * 3 + 1, none⟩) h5 h6]; exact h9, by rw [hT.cell (p := ⟨b, o + i * 3 + 2, none⟩) h5 h6]; exact h10, ItZ.tch hT h11⟩
theorem ItZ.mono {X Y : List Nat} {w : World} (hX : ∀ y ∈ Y, y ∈ X ∨ w.heap.size ≤ y) : ∀ {k : Nat} {x y z : Value} {t : It}, ItZ X w k x y z t → ItZ Y w k x y z t
  | 0, _, _, _, _, h => h.elim
  | _ + 1, _, _, _, .str l, h => by unfold ItZ at h ⊢; exact ⟨h.1, h.2.1.mono hX, h.2.2⟩
  | k + 1, _, _, _, .lst l, h => by
    unfold ItZ at h ⊢
    obtain ⟨h0, hz, p, c, h1, h2, h3⟩ := h
    refine ⟨h0, hz, p, c, h1, h2, fun hl => ?_⟩
    obtain ⟨b, o, h4, h5, h6, h7⟩ := h3 hl
    refine ⟨b, o, h4, h5, fun hm => (hX _ hm).elim h6 (fun h => by omega), fun i hi => ?_⟩
    obtain ⟨y0, yb, yl, h8, h9, h10, h11⟩ := h7 i hi
    exact ⟨y0, yb, yl, h8, h9, h10, ItZ.mono hX h11⟩
theorem ItZ.up {X : List Nat} {w : World} : ∀ {k j : Nat} {x y z : Value} {t : It}, k ≤ j → ItZ X w k x y z t → ItZ X w j x y z t
  | 0, _, _, _, _, _, _, h => h.elim
  | _ + 1, 0, _, _, _, _, hj, _ => by omega
  | _ + 1, _ + 1, _, _, _, .str l, _, h => by unfold ItZ at h ⊢; exact h
  | k + 1, j + 1, _, _, _, .lst l, hj, h => by
    unfold ItZ at h ⊢
    obtain ⟨h0, hz, p, c, h1, h2, h3⟩ := h
    refine ⟨h0, hz, p, c, h1, h2, fun hl => ?_⟩
    obtain ⟨b, o, h4, h5, h6, h7⟩ := h3 hl
    refine ⟨b, o, h4, h5, h6, fun i hi => ?_⟩
    obtain ⟨y0, yb, yl, h8, h9, h10, h11⟩ := h7 i hi
    exact ⟨y0, yb, yl, h8, h9, h10, ItZ.up (by omega) h11⟩
theorem ItZ.c {X : List Nat} {w : World} : ∀ {k : Nat} {x y z : Value} {t : It}, ItZ X w k x y z t → ItC X w k x y z t
  | 0, _, _, _, _, h => h.elim
  | _ + 1, _, _, _, .str l, h => by unfold ItZ at h; unfold ItC; exact h
  | k + 1, _, _, _, .lst l, h => by
    unfold ItZ at h
    unfold ItC
    obtain ⟨h0, hz, p, c, h1, h2, h3⟩ := h
    refine ⟨h0, p, c, h1, h2, fun hl => ?_⟩
    obtain ⟨b, o, h4, h5, h6, h7⟩ := h3 hl
    refine ⟨b, o, h4, h5, h6, fun i hi => ?_⟩
    obtain ⟨y0, yb, yl, h8, h9, h10, h11⟩ := h7 i hi
    exact ⟨y0, yb, yl, h8, h9, h10, ItZ.c h11⟩
/-- An item in memory that the call made. -/
def ItFZ (w w' : World) (k : Nat) (x0 vb vl : Value) (it : It) : Prop := ∀ X, (∀ x ∈ X, x < w.heap.size) → ItZ X w' k x0 vb vl it
def RItemPostZ (w : World) (k : Nat) (it : It) (e : Ending) (w' : World) : Prop :=
  Tch [] w w' ∧ ∃ d p1 n1 c1 p2 n2 c2, e = .returned (.agg #[.bool d, .slice p1 n1 c1, .slice p2 n2 c2]) ∧ ItFZ w w' k (.bool d) (.slice p1 n1 c1) (.slice p2 n2 c2) it
def RItemOKZ (k : Nat) : Prop := ∀ (X : List Nat) (v : Value) (it : It) (w : World), PcV X w k v it → (enc it).length ≤ 100000000 → Calls Tryz.prog 64 #[v] w (RItemPostZ w k it)
set_option maxHeartbeats 800000 in
set_option maxRecDepth 100000 in
theorem item_singleZ (x k : Nat) (w : World) (hx : x < 128) : Calls Tryz.prog 64 #[.iface 161 (.int .u8 (x : Int))] w (RItemPostZ w (k + 1) (.str [x])) := by
  obtain ⟨f0, f1, f2, hty, _⟩ := item_ty
  have hS := St.start w
  have k1 := taSS
  go_enter Tryz.func64, Tryz.ntmps64
  go_wp2_with (first
    | (refine st_new hS rfl 68 rfl item_zero ?_; clear hS; intro w1 b1 hS)
    | (refine st_store1v (j := 1) (v := .slice (some ⟨w1.heap.size, 0, none⟩) 1 1) (hS.new 5 #[.int .u8 (x : Int)]) rfl 26 _ _ rfl rfl rfl rfl slc_size (by repeat (first | exact Upd.head | apply Upd.tail)) (by decide) ?_; have hz := hS.frame.size; clear hS; intro w3 hS)
    | (refine st_load hS rfl 68 _ rfl rfl (by repeat (first | exact At.head | apply At.tail)) hty rfl item_size (by rfl) ?_)
    | (refine st_store (c' := #[.bool false, .slice (some ⟨w1.heap.size, 0, none⟩) 1 1, .slice none 0 0]) hS rfl 68 _ _ rfl rfl rfl (by repeat (first | exact Upd.head | apply Upd.tail)) item_size (by rfl) (by rfl) (one3 rfl rfl rfl) ?_; clear hS; intro w4 hS))
  refine st_post (c := #[.bool false, .slice (some ⟨w1.heap.size, 0, none⟩) 1 1, .slice none 0 0]) hS 2 68 rfl rfl rfl (by repeat (first | exact At.head | apply At.tail)) hty rfl item_size rfl (fun hT => ⟨hT, _, _, _, _, _, _, _, rfl, fun X hX => ?_⟩)
  have hB := hS.get .head
  unfold ItZ
  refine ⟨rfl, ⟨_, _, rfl, Nat.le_refl _, by simp; omega, fun _ => ⟨w1.heap.size, 0, rfl, hB.lt, fun hm => by have := hX _ hm; omega, fun i hi => ?_⟩⟩, by simp⟩
  obtain rfl : i = 0 := by simp at hi; exact hi
  exact hB.cell rfl
set_option maxHeartbeats 800000 in
set_option maxRecDepth 100000 in
theorem item_textZ (X : List Nat) (k : Nat) (s : Value) (l : List Nat) (w : World) (hn : l.length ≤ 100000000) (hv : RdA X w s l) : Calls Tryz.prog 64 #[.iface 162 s] w (RItemPostZ w (k + 1) (.str l)) := by
  obtain ⟨f0, f1, f2, hty, _⟩ := item_ty
  obtain ⟨p, n, c, rfl⟩ := slice_keep hv
  have hS := St.start w
  have k1 := taTS
  have k2 := taTT
  have hcl := fun (w1 : World) (hT : Tch [] w w1) => clone_any (.slice p n c) l w1 hn ((hv.tch (hT.mono (by simp))).mono (Y := []) (by simp))
  have HC := Lib.hid hcl
  clear hcl hv
  go_enter Tryz.func64, Tryz.ntmps64
  go_wp2_with (first
    | (refine st_new (L := []) hS rfl 68 rfl item_zero ?_; clear hS; intro w0 b0 hS)
    | (refine st_new hS rfl 68 rfl item_zero ?_; clear hS; intro w1 b1 hS)
    | (go_at_call 92; refine (HC.out w1 hS.frame).mono ?_; rintro e w2 ⟨hT2, p2, n2, c2, rfl, hrd⟩
       have hB1 := (hS.call hT2).get .head
       have hB0 := (hS.call hT2).get (.tail .head)
       have hne := hS.apart2
       have hge0 := (hS.own .head).resolve_right (by simp)
       have hge1 := (hS.own (.tail .head)).resolve_right (by simp)
       have hlt1 := (hS.get .head).lt
       have hlt0 := (hS.get (.tail .head)).lt
       have hF := hS.frame
       clear hS
       have hS := St.two hB1 hB0 hne)
    | (refine st_store1v (j := 1) (v := .slice p2 n2 c2) hS rfl 26 _ _ rfl rfl rfl rfl slc_size (by repeat (first | exact Upd.head | apply Upd.tail)) (by decide) ?_; clear hS; intro w3 hS)
    | (refine st_load hS rfl 68 _ rfl rfl (by repeat (first | exact At.head | apply At.tail)) hty rfl item_size (by rfl) ?_)
    | (refine st_store (c' := #[.bool false, .slice p2 n2 c2, .slice none 0 0]) hS rfl 68 _ _ rfl rfl rfl (by repeat (first | exact Upd.head | apply Upd.tail)) item_size (by rfl) (by rfl) (one3 rfl rfl rfl) ?_; clear hS; intro w4 hS))
  refine st_post (c := #[.bool false, .slice p2 n2 c2, .slice none 0 0]) hS 2 68 rfl rfl rfl (by repeat (first | exact At.head | apply At.tail)) hty rfl item_size rfl (fun hT => ⟨(hF.trans hT2).fresh hT (fun x hx => by simp at hx; omega), _, _, _, _, _, _, _, rfl, fun X hX => ?_⟩)
  have h1 := hrd (b1 :: b0 :: X) (fun x hx => by
    rcases List.mem_cons.1 hx with rfl | hx
    · exact hlt1
    rcases List.mem_cons.1 hx with rfl | hx
    · exact hlt0
    · exact Nat.lt_of_lt_of_le (hX x hx) hF.size)
  unfold ItZ
  exact ⟨rfl, (h1.tch (hT.mono (fun x hx => .inl (by simp at hx ⊢; rcases hx with h | h <;> simp [h])))).mono (fun y hy => .inl (by simp [hy])), by omega⟩
/-- What holds behind m rounds of the loop over a list. -/
def ILIZ (w : World) (k n : Nat) (ts : List It) (b0 b1 Rb m : Nat) (wr : World) : Prop :=
  ∃ c, St [] w wr [(Rb, 68, c), (b1, 68, #[.bool true, .slice none 0 0, .slice (some ⟨Rb, 0, none⟩) n n]), (b0, 68, #[.bool false, .slice none 0 0, .slice none 0 0])] ∧ c.size = n * 3 ∧
    ∀ q (h : q < ts.length), q < m → ∃ y0 yb yl, c[q * 3]? = some y0 ∧ c[q * 3 + 1]? = some yb ∧ c[q * 3 + 2]? = some yl ∧ ∀ X, (∀ x ∈ X, x < w.heap.size) → ItZ (Rb :: b0 :: X) wr k y0 yb yl ts[q]
theorem ili_stepZ {w wr w2 : World} {k n b0 b1 Rb m : Nat} {ts : List It} {d : Bool} {p1 p2 : Option Addr} {n1 c1 n2 c2 : Nat} {c : Array Value} (hn : n = ts.length) (hm : m < n) (hT2 : Tch [] wr.drew w2) (hitf : ItFZ wr.drew w2 k (.bool d) (.slice p1 n1 c1) (.slice p2 n2 c2) (ts[m]'(by omega)))
    (hS : St [] w wr [(Rb, 68, c), (b1, 68, #[.bool true, .slice none 0 0, .slice (some ⟨Rb, 0, none⟩) n n]), (b0, 68, #[.bool false, .slice none 0 0, .slice none 0 0])]) (hc : c.size = n * 3)
    (hps : ∀ q (h : q < ts.length), q < m → ∃ y0 yb yl, c[q * 3]? = some y0 ∧ c[q * 3 + 1]? = some yb ∧ c[q * 3 + 2]? = some yl ∧ ∀ X, (∀ x ∈ X, x < w.heap.size) → ItZ (Rb :: b0 :: X) wr k y0 yb yl ts[q]) :
    ILIZ w k n ts b0 b1 Rb (m + 1) (((w2.setCell ⟨Rb, m * 3, none⟩ (.bool d)).setCell ⟨Rb, m * 3 + 1, none⟩ (.slice p1 n1 c1)).setCell ⟨Rb, m * 3 + 2, none⟩ (.slice p2 n2 c2)) := by
  have hS3 := (((hS.drew.call hT2).setc (m * 3) (.bool d)).setc (m * 3 + 1) (.slice p1 n1 c1)).setc (m * 3 + 2) (.slice p2 n2 c2)
  have hO : Only Rb w2 (((w2.setCell ⟨Rb, m * 3, none⟩ (.bool d)).setCell ⟨Rb, m * 3 + 1, none⟩ (.slice p1 n1 c1)).setCell ⟨Rb, m * 3 + 2, none⟩ (.slice p2 n2 c2)) := ((Only.setCell w2 ⟨Rb, m * 3, none⟩ _).trans (Only.setCell _ ⟨Rb, m * 3 + 1, none⟩ _)).trans (Only.setCell _ ⟨Rb, m * 3 + 2, none⟩ _)
  refine ⟨_, hS3, by simp [hc], fun q hq hqm => ?_⟩
  have hT3 : ∀ X, Tch (Rb :: X) w2 _ := fun X => (Tch.refl _ _).only hO (.inr (by simp))
  have hTd : Tch [] wr w2 := ⟨hT2.os, hT2.tape, hT2.output, hT2.size, hT2.block⟩
  by_cases hqe : q = m
  · subst hqe
    obtain ⟨h1, h2, h3⟩ := set3_at (a := .bool d) (b := .slice p1 n1 c1) (d := .slice p2 n2 c2) (c := c) (j := q * 3) (by omega)
    exact ⟨_, _, _, h1, h2, h3, fun X hX => (hitf (Rb :: b0 :: X) (fun x hx => by
      rcases List.mem_cons.1 hx with rfl | hx
      · exact (hS.get .head).lt
      rcases List.mem_cons.1 hx with rfl | hx
      · exact (hS.get (.tail (.tail .head))).lt
      · exact Nat.lt_of_lt_of_le (hX x hx) hS.frame.size)).tch (hT3 _)⟩
  · obtain ⟨y0, yb, yl, h1, h2, h3, h4⟩ := hps q hq (by omega)
    exact ⟨y0, yb, yl, by rw [set3_off (by omega)]; exact h1, by rw [set3_off (by omega)]; exact h2, by rw [set3_off (by omega)]; exact h3, fun X hX => ((h4 X hX).tch (hTd.mono (by simp))).tch (hT3 _)⟩
theorem ili_endZ {w wr w4 : World} {k n b0 b1 Rb : Nat} {ts : List It} (hn : n = ts.length) (hlen : n ≤ 100000000) (hI : ILIZ w k n ts b0 b1 Rb n wr) (hw : w.heap.size ≤ Rb) (hO : Only b0 wr w4) (hT : Tch [] w w4) (hne : b0 ≠ Rb) :
    RItemPostZ w (k + 1) (.lst ts) (.returned (.agg #[.bool true, .slice none 0 0, .slice (some ⟨Rb, 0, none⟩) n n])) w4 := by
  obtain ⟨c, hS, hc, hps⟩ := hI
  refine ⟨hT, _, _, _, _, _, _, _, rfl, fun X hX => ?_⟩
  have hB := hO.blk (Ne.symm hne) (hS.get .head)
  unfold ItZ
  refine ⟨rfl, rfl, _, n, by rw [hn], by omega, fun _ => ⟨Rb, 0, rfl, hB.lt, fun hm => by have := hX _ hm; omega, fun i hi => ?_⟩⟩
  obtain ⟨y0, yb, yl, h1, h2, h3, h4⟩ := hps i hi (by omega)
  refine ⟨y0, yb, yl, by rw [Nat.zero_add]; exact hB.cell h1, by rw [Nat.zero_add]; exact hB.cell h2, by rw [Nat.zero_add]; exact hB.cell h3, ?_⟩
  exact ((h4 X hX).tch ((Tch.refl _ _).only hO (.inr (by simp)))).mono (fun y hy => .inl (List.mem_cons_of_mem _ (List.mem_cons_of_mem _ hy)))
set_option maxHeartbeats 800000 in
set_option maxRecDepth 100000 in
theorem item_listZ (k : Nat) (ih : RItemOKZ k) (X : List Nat) (p : Option Addr) (c : Nat) (ts : List It) (w : World) (hlen : (enc (.lst ts)).length ≤ 100000000) (hv : PcV X w (k + 1) (.iface 167 (.slice p ts.length c)) (.lst ts)) : Calls Tryz.prog 64 #[.iface 167 (.slice p ts.length c)] w (RItemPostZ w (k + 1) (.lst ts)) := by
  obtain ⟨f0, f1, f2, hty, _⟩ := item_ty
  obtain ⟨i0, hi, hz0, hz1, hz2⟩ := info_parts item_infos
  unfold PcV at hv
  obtain ⟨p', c', he, hcap, hcells⟩ := hv
  cases he
  have hS := St.start w
  have k1 := taLS
  have k2 := taLT
  have k3 := taLL
  have hel : ∀ i (h : i < ts.length), (enc ts[i]).length ≤ 100000000 := fun i h => by
    have h1 := encs_item ts i h
    rw [enc_lst, List.length_append] at hlen
    omega
  have hn8 : ts.length ≤ 100000000 := by
    have := encs_len ts
    rw [enc_lst, List.length_append] at hlen
    omega
  obtain ⟨n, hn⟩ : ∃ n, n = ts.length := ⟨_, rfl⟩
  rw [← hn] at hcap ⊢
  have HN := Lib.hid hn
  have HC := Lib.hid (And.intro hcells hel)
  have hn9 : n ≤ 100000000 := by omega
  clear hcells hel hn hlen hn8
  go_enter Tryz.func64, Tryz.ntmps64
  go_wp2_with (first
    | (refine st_new (L := []) hS rfl 68 rfl item_zero ?_; clear hS; intro w0 b0 hS)
    | (refine st_new hS rfl 68 rfl item_zero ?_; clear hS; intro w1 b1 hS)
    | (refine st_store1v (j := 0) (v := .bool true) hS rfl 4 _ _ rfl rfl rfl rfl bool_size (by repeat (first | exact Upd.head | apply Upd.tail)) (by decide) ?_; clear hS; intro w2 hS)
    | (refine wpList_make_full w2 rfl _ _ 66 rfl w.heap.size 68 i0 _ 3 items_ty hi hz0 hz1 .i64 .i64 _ _ n rfl rfl rfl rfl (by rw [hz2]; omega) (by unfold maxLen; omega) hS.frame.size ?_; intro w3 hown hg; obtain ⟨cur, hcb, hcs⟩ := row_blk hown; replace hS := hS.callNew ⟨hg.os, hg.tape, hg.output, hg.size, fun q hq _ => hg.block q hq (by simp)⟩ hcb (Nat.le_refl _); clear hown hg hcb)
    | (refine st_store1v (j := 2) (v := .slice (some ⟨w2.heap.size, 0, none⟩) n n) hS rfl 66 _ _ rfl rfl rfl rfl sli_size (by repeat (first | exact Upd.head | apply Upd.tail)) (by decide) ?_; clear hS; intro w4 hS))
  have hF := hS.frame.size
  have hge0 := (hS.own (.tail (.tail .head))).resolve_right (by simp)
  have hgeR := (hS.own .head).resolve_right (by simp)
  have hRlt := (hS.get .head).lt
  have hne0 : b0 ≠ w2.heap.size := fun e => (List.pairwise_cons.1 hS.apart).1 (b0, _, _) (.tail _ (.head _)) e.symm
  obtain ⟨Rb, hRb⟩ : ∃ Rb, w2.heap.size = Rb := ⟨_, rfl⟩
  rw [hRb] at hS hgeR hRlt hne0 ⊢
  have hI0 : ILIZ w k n ts b0 b1 Rb 0 w4 := ⟨cur, hS, hcs, fun q _ hq => absurd hq (by omega)⟩
  have H0 := Lib.hid hI0
  clear hI0 hS hRb hcs
  go_loopw [32] (fun i wr => ∃ m : Nat, m ≤ n ∧ i = .int .i64 (m : Int) ∧ ILIZ w k n ts b0 b1 Rb m wr) (fun i _ => n - (intOf i).toNat)
  case atStart => exact ⟨0, Nat.zero_le _, rfl, H0.out⟩
  case round =>
    obtain ⟨m, hm, rfl, hI⟩ := hrel
    obtain ⟨cs, hS, hcs, hps⟩ := id hI
    have HI := Lib.hid hI
    have HPS := Lib.hid (And.intro hcs hps)
    clear hI hcs hps
    by_cases hlt : m < n
    · have hmt : m < ts.length := by have := HN.out; omega
      obtain ⟨b, o, rfl, hbw, hbX, hcc⟩ := HC.out.1 (by intro e; rw [e] at hmt; simp at hmt)
      obtain ⟨u, hcu, hpu⟩ := hcc m hmt
      have hc := (hS.frame.cell (p := ⟨b, o + m, none⟩) hbw (by simp)).trans hcu
      have hcall := ih X u ts[m] wr.drew ((hpu.tch (hS.frame.mono (by simp))).tch ((Tch.refl _ _).drew)) (HC.out.2 m hmt)
      have HK := Lib.hid hcall
      have hlf := (hS.get (.tail .head)).cell (j := 2) rfl
      have hlt1 := (hS.get (.tail .head)).lt
      have hne1 : b1 ≠ Rb := fun e => hS.apart2 e.symm
      have hq : cs[m * 3]? = some (cs[m * 3]'(by have := HPS.out.1; omega)) ∧ cs[m * 3 + 1]? = some (cs[m * 3 + 1]'(by have := HPS.out.1; omega)) ∧ cs[m * 3 + 2]? = some (cs[m * 3 + 2]'(by have := HPS.out.1; omega)) := ⟨Array.getElem?_eq_getElem _, Array.getElem?_eq_getElem _, Array.getElem?_eq_getElem _⟩
      have HQ := Lib.hid hq
      clear hcall hcc hcu hpu hq
      go_wp2
      go_region_held3 (fun w' => w'.cell? ⟨b1, 2, none⟩ = some (.slice (some ⟨Rb, 0, none⟩) n n))
        (first
          | go_keep
          | (rw [hT2.cell (p := ⟨b1, 2, none⟩) hlt1 (by simp)]; assumption)
          | exact (((hB15.far (p := ⟨Rb, m * 3, none⟩) hne1 _).far (p := ⟨Rb, m * 3 + 1, none⟩) hne1 _).far (p := ⟨Rb, m * 3 + 2, none⟩) hne1 _).cell rfl)
        (first
          | (go_at_call 64; refine HK.out.mono ?_; rintro e w5 ⟨hT2, d, p1, n1, c1, p2, n2, c2, rfl, hitf⟩; have hB5 := (hS.drew.call hT2).get .head; have hB15 := (hS.drew.call hT2).get (.tail .head); have hq0 := hB5.cell (HQ.out.1); have hq1 := hB5.cell (HQ.out.2.1); have hq2 := hB5.cell (HQ.out.2.2); have hf0 := hB5.free (m * 3); have hf1 := hB5.free (m * 3 + 1); have hf2 := hB5.free (m * 3 + 2)))
      have hIs := ili_stepZ HN.out hlt hT2 hitf hS HPS.out.1 HPS.out.2
      have HIS := Lib.hid hIs
      clear hIs hq0 hq1 hq2 hf0 hf1 hf2 hB5 hB15 hitf
      go_wp2
      go_roundw
      case rel => exact ⟨m + 1, by omega, by go_num, HIS.out⟩
      case measure => simp [intOf]; omega
    · obtain rfl : m = n := by omega
      go_wp2_with (first
        | (refine st_load hS rfl 68 _ rfl rfl (by repeat (first | exact At.head | apply At.tail)) hty rfl item_size (by rfl) ?_)
        | (refine arm_store (w' := wr.setRow b0 #[.bool true, .slice none 0 0, .slice (some ⟨Rb, 0, none⟩) m m]) (b := b0) (c := #[.bool true, .slice none 0 0, .slice (some ⟨Rb, 0, none⟩) m m]) rfl 68 _ _ rfl rfl rfl ((hS.get (.tail (.tail .head))).store item_size (by rfl) (by rfl) (one3 rfl rfl rfl)) ?_))
      have hS7 := hS.upd (.tail (.tail .head)) (Only.setRow wr b0 #[.bool true, .slice none 0 0, .slice (some ⟨Rb, 0, none⟩) m m]) ((hS.get (.tail (.tail .head))).row _)
      exact st_post (c := #[.bool true, .slice none 0 0, .slice (some ⟨Rb, 0, none⟩) m m]) hS7 2 68 rfl rfl rfl (by repeat (first | exact At.head | apply At.tail)) hty rfl item_size rfl (fun hT => ili_endZ HN.out hn9 HI.out hgeR (Only.setRow wr b0 _) hT hne0)
theorem item_anyZ : ∀ k, RItemOKZ k
  | 0 => fun X v it w h _ => h.elim
  | k + 1 => fun X v it w h hl => by
    cases it with
    | str l =>
      unfold PcV at h
      by_cases hs : single l = true
      · rw [if_pos hs] at h
        subst h
        obtain ⟨h1, h2⟩ := single_one hs
        have := item_singleZ (l.getD 0 0) k w h2
        rwa [← h1] at this
      · rw [if_neg hs] at h
        obtain ⟨s, rfl, hv⟩ := h
        refine item_textZ X k s l w ?_ hv
        rw [enc_str] at hl
        unfold encS at hl
        rw [if_neg hs, List.length_append] at hl
        omega
    | lst l =>
      obtain ⟨p, c, rfl⟩ : ∃ p c, v = .iface 167 (.slice p l.length c) := by
        unfold PcV at h
        obtain ⟨p, c, h, _⟩ := h; exact ⟨p, c, h⟩
      exact item_listZ k (item_anyZ k) X p c l w hl h
end Go.Proofs.YtdjhjgockgmbkaaGreatDoor

/- rlp.Read, what it answers told with a list's bytes. -/
namespace Go.Proofs.YtdjhjgockgmbkaaGreatDoor
open Go.RowKit

/-- What Read answers. -/
def ReadPostZ (l : List Nat) (w : World) (e : Ending) (w' : World) : Prop :=
  Tch [] w w' ∧ ∃ d p1 n1 c1 p2 n2 c2, e = .returned (.tuple #[.agg #[.bool d, .slice p1 n1 c1, .slice p2 n2 c2], .int .i64 (rdErr l : Int)]) ∧ ItFZ w w' 34 (.bool d) (.slice p1 n1 c1) (.slice p2 n2 c2) (rdItem l)
theorem readpost_noZ {l : List Nat} {c : Nat} {w w' : World} {n : Int} (h : rd l = .error c) (hn : n = (c : Int)) (hT : Tch [] w w') : ReadPostZ l w (.returned (.tuple #[.agg #[.bool false, .slice none 0 0, .slice none 0 0], .int .i64 n])) w' := by
  have e1 : rdErr l = c := by unfold rdErr; rw [h]
  have e2 : rdItem l = .str [] := by unfold rdItem; rw [h]
  refine ⟨hT, _, _, _, _, _, _, _, by rw [e1, hn], fun X _ => ?_⟩
  rw [e2]
  unfold ItZ
  exact ⟨rfl, (RdB.nil w').rdA' X, by simp⟩
theorem readpost_yesZ {l : List Nat} {t : It} {w w' : World} {d : Bool} {p1 p2 : Option Addr} {n1 c1 n2 c2 k : Nat} (h : rd l = .ok t) (hT : Tch [] w w') (hk : k ≤ 34) (hI : ∀ X, (∀ x ∈ X, x < w.heap.size) → ItZ X w' k (.bool d) (.slice p1 n1 c1) (.slice p2 n2 c2) t) : ReadPostZ l w (.returned (.tuple #[.agg #[.bool d, .slice p1 n1 c1, .slice p2 n2 c2], .int .i64 0])) w' := by
  have e1 : rdErr l = 0 := by unfold rdErr; rw [h]
  have e2 : rdItem l = t := by unfold rdItem; rw [h]
  exact ⟨hT, _, _, _, _, _, _, _, by rw [e1]; rfl, fun X hX => by rw [e2]; exact (hI X hX).up hk⟩
set_option maxHeartbeats 800000 in
set_option maxRecDepth 100000 in
theorem read_longZ (v : Value) (l : List Nat) (w : World) (hm : l.length < 4611686018427387904) (hv : RdA [] w v l) (hl : 16777216 < l.length) : Calls Tryz.prog 32 #[v] w (ReadPostZ l w) := by
  obtain ⟨f0, f1, f2, hty, _⟩ := item_ty
  have hS := St.start w
  have hrd : rd l = .error 3 := by unfold rd; rw [if_pos hl]
  obtain ⟨p, n, c, rfl⟩ := slice_keep hv
  have hln := hv.len
  have hgt : (16777216 : Int) < (n : Int) := by omega
  have HR := Lib.hid hrd
  clear hrd hv hln
  go_enter Tryz.func32, Tryz.ntmps32
  go_wp2_with (first
    | (refine st_new hS rfl 68 rfl item_zero ?_; clear hS; intro w0 b0 hS)
    | (refine st_store (c' := #[.bool false, .slice none 0 0, .slice none 0 0]) hS rfl 68 _ _ rfl rfl rfl (by repeat (first | exact Upd.head | apply Upd.tail)) item_size (by rfl) (by rfl) (one3 rfl rfl rfl) ?_; clear hS; intro w4 hS))
  exact post_cell_one 2 3 68 rfl rfl rfl rfl (hS.get .head) hty rfl item_size rfl (readpost_noZ HR.out rfl hS.frame)
set_option maxHeartbeats 800000 in
set_option maxRecDepth 100000 in
theorem read_errZ (v : Value) (l : List Nat) (ec : Nat) (w : World) (hv : RdA [] w v l) (hl : l.length ≤ 16777216) (hd : dec 32 l = .error ec) : Calls Tryz.prog 32 #[v] w (ReadPostZ l w) := by
  obtain ⟨f0, f1, f2, hty, _⟩ := item_ty
  have hS := St.start w
  have hrd : rd l = .error ec := by unfold rd; rw [if_neg (by omega), hd]
  have hp := fun (w1 : World) (hT : Tch [] w w1) => ((parse_list_any 32).1 [] v l w1 0 (by omega) (by simp) (hv.tch hT) (by omega) (by omega)).mono (R' := fun e w' => ∃ v1 v2, e = .returned (.tuple #[v1, v2, .int .i64 (ec : Int)]) ∧ Tch [] w1 w') (fun e w' h => by
    obtain ⟨h1, h2⟩ := h
    rw [hd] at h2
    obtain ⟨v1, v2, h3⟩ := h2
    exact ⟨v1, v2, h3, h1⟩)
  have he := dec_error hd
  have e0 : ((ec : Int) == 0) = false := by rw [beq_eq_false_iff_ne]; omega
  have e1 : ((ec : Int) != 0) = true := by rw [bne_iff_ne]; omega
  obtain ⟨p, n, c, rfl⟩ := slice_keep hv
  have hln := hv.len
  have hgt : ¬ (16777216 : Int) < (n : Int) := by omega
  have HR := Lib.hid hrd
  have HP := Lib.hid hp
  clear hrd hv hln hp hd
  go_enter Tryz.func32, Tryz.ntmps32
  go_wp2_with (first
    | (refine st_new hS rfl 68 rfl item_zero ?_; clear hS; intro w0 b0 hS)
    | (go_at_call 63; refine (HP.out w0 hS.frame).mono ?_; rintro e w1 ⟨v1, v2, rfl, hT1⟩; replace hS := hS.call hT1)
    | (refine st_store (c' := #[.bool false, .slice none 0 0, .slice none 0 0]) hS rfl 68 _ _ rfl rfl rfl (by repeat (first | exact Upd.head | apply Upd.tail)) item_size (by rfl) (by rfl) (one3 rfl rfl rfl) ?_; clear hS; intro w4 hS))
  exact post_cell_one 2 3 68 rfl rfl rfl rfl (hS.get .head) hty rfl item_size rfl (readpost_noZ HR.out rfl hS.frame)
set_option maxHeartbeats 800000 in
set_option maxRecDepth 100000 in
theorem read_moreZ (v : Value) (l r : List Nat) (t : It) (w : World) (hv : RdA [] w v l) (hl : l.length ≤ 16777216) (hd : dec 32 l = .ok (t, r)) (hr : r ≠ []) : Calls Tryz.prog 32 #[v] w (ReadPostZ l w) := by
  obtain ⟨f0, f1, f2, hty, _⟩ := item_ty
  have hS := St.start w
  have hrd : rd l = .error 4 := by unfold rd; rw [if_neg (by omega), hd]; simp only []; rw [if_neg hr]
  have hp := fun (w1 : World) (hT : Tch [] w w1) => ((parse_list_any 32).1 [] v l w1 0 (by omega) (by simp) (hv.tch hT) (by omega) (by omega)).mono (R' := fun e w' => ∃ v1 p2 n2 c2, 0 < n2 ∧ e = .returned (.tuple #[v1, .slice p2 n2 c2, .int .i64 0]) ∧ Tch [] w1 w') (fun e w' h => by
    obtain ⟨h1, h2⟩ := h
    rw [hd] at h2
    obtain ⟨v1, v2, h3, _, h4⟩ := h2
    obtain ⟨p2, n2, c2, rfl⟩ := slice_keep h4
    exact ⟨v1, p2, n2, c2, by rw [h4.len]; exact List.length_pos_iff.2 hr, h3, h1⟩)
  obtain ⟨p, n, c, rfl⟩ := slice_keep hv
  have hln := hv.len
  have hgt : ¬ (16777216 : Int) < (n : Int) := by omega
  have HR := Lib.hid hrd
  have HP := Lib.hid hp
  clear hrd hv hln hp hd
  go_enter Tryz.func32, Tryz.ntmps32
  go_wp2_with (first
    | (refine st_new hS rfl 68 rfl item_zero ?_; clear hS; intro w0 b0 hS)
    | (go_at_call 63; refine (HP.out w0 hS.frame).mono ?_; rintro e w1 ⟨v1, p2, n2, c2, hn2, rfl, hT1⟩; replace hS := hS.call hT1)
    | (refine st_store (c' := #[.bool false, .slice none 0 0, .slice none 0 0]) hS rfl 68 _ _ rfl rfl rfl (by repeat (first | exact Upd.head | apply Upd.tail)) item_size (by rfl) (by rfl) (one3 rfl rfl rfl) ?_; clear hS; intro w4 hS))
  exact post_cell_one 2 3 68 rfl rfl rfl rfl (hS.get .head) hty rfl item_size rfl (readpost_noZ HR.out rfl hS.frame)
set_option maxHeartbeats 800000 in
set_option maxRecDepth 100000 in
theorem read_okZ (v : Value) (l : List Nat) (t : It) (w : World) (hv : RdA [] w v l) (hl : l.length ≤ 16777216) (hd : dec 32 l = .ok (t, [])) : Calls Tryz.prog 32 #[v] w (ReadPostZ l w) := by
  obtain ⟨f0, f1, f2, hty, _⟩ := item_ty
  have hS := St.start w
  have hrd : rd l = .ok t := by unfold rd; rw [if_neg (by omega), hd]; simp
  have henc := dec_enc 32 l t [] hv.lt hd
  rw [List.append_nil] at henc
  have hp := fun (w1 : World) (hT : Tch [] w w1) => ((parse_list_any 32).1 [] v l w1 0 (by omega) (by simp) (hv.tch hT) (by omega) (by omega)).mono (R' := fun e w' => ∃ T1 u1 p2 c2, e = .returned (.tuple #[.iface T1 u1, .slice p2 0 c2, .int .i64 0]) ∧ Tch [] w1 w' ∧ Calls Tryz.prog 64 #[.iface T1 u1] w' (RItemPostZ w' 33 t)) (fun e w' h => by
    obtain ⟨h1, h2⟩ := h
    rw [hd] at h2
    obtain ⟨v1, v2, h3, h4, h5⟩ := h2
    obtain ⟨p2, n2, c2, rfl⟩ := slice_keep h5
    obtain ⟨T1, u1, rfl⟩ := h4.iface
    have : n2 = 0 := h5.len
    subst this
    exact ⟨T1, u1, p2, c2, h3, h1, item_anyZ 33 _ _ t w' h4 (by rw [← henc]; omega)⟩)
  obtain ⟨p, n, c, rfl⟩ := slice_keep hv
  have hln := hv.len
  have hgt : ¬ (16777216 : Int) < (n : Int) := by omega
  have HR := Lib.hid hrd
  have HP := Lib.hid hp
  clear hrd hv hln hp hd henc
  go_enter Tryz.func32, Tryz.ntmps32
  go_wp2_with (first
    | (refine st_new hS rfl 68 rfl item_zero ?_; clear hS; intro w0 b0 hS)
    | (go_at_call 63; refine (HP.out w0 hS.frame).mono ?_; rintro e w1 ⟨T1, u1, p2, c2, rfl, hT1, hitem⟩; replace hS := hS.call hT1; have HI := Lib.hid hitem; clear hitem)
    | (go_at_call 64; refine HI.out.mono ?_; rintro e w2 ⟨hT2, d, p3, n3, c3, p4, n4, c4, rfl, hitf⟩
       have hB0 := (hS.call hT2).get .head
       have hge0 := (hS.own .head).resolve_right (by simp)
       have hlt0 := (hS.get .head).lt
       have hF := hS.frame
       clear hS
       have hS := St.one hB0)
    | (refine st_store (c' := #[.bool d, .slice p3 n3 c3, .slice p4 n4 c4]) hS rfl 68 _ _ rfl rfl rfl (by repeat (first | exact Upd.head | apply Upd.tail)) item_size (by rfl) (by rfl) (one3 rfl rfl rfl) ?_; clear hS; intro w4 hS))
  refine post_cell_one 2 3 68 rfl rfl rfl rfl (hS.get .head) hty rfl item_size rfl (readpost_yesZ HR.out ((hF.trans hT2).fresh hS.frame (fun x hx => by simp at hx; omega)) (show 33 ≤ 34 by omega) (fun X hX => ?_))
  exact ((hitf (b0 :: X) (fun x hx => by
    rcases List.mem_cons.1 hx with rfl | hx
    · exact hlt0
    · exact Nat.lt_of_lt_of_le (hX x hx) hF.size)).tch (hS.frame.mono (by simp))).mono (fun y hy => .inl (List.mem_cons_of_mem _ hy))
theorem read_anyZ (v : Value) (l : List Nat) (w : World) (hm : l.length < 4611686018427387904) (hv : RdA [] w v l) : Calls Tryz.prog 32 #[v] w (ReadPostZ l w) := by
  by_cases hl : 16777216 < l.length
  · exact read_longZ v l w hm hv hl
  · cases hd : dec 32 l with
    | error ec => exact read_errZ v l ec w hv (by omega) hd
    | ok tr =>
      obtain ⟨t, r⟩ := tr
      by_cases hr : r = []
      · subst hr; exact read_okZ v l t w hv (by omega) hd
      · exact read_moreZ v l r t w hv (by omega) hd hr
end Go.Proofs.YtdjhjgockgmbkaaGreatDoor
