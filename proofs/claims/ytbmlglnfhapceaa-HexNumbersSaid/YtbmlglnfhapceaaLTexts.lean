/- The law HexTexts: for all bytes, words and addresses: their texts, as the document's own words tell, are read as these. No condition. -/
import Derived.Test.YtbmlglnfhapceaaL2
namespace Go.Proofs.Ytbmlglnfhapceaa.Texts
open Go.RowKit

theorem pad_strip (l : List UInt8) : pad (l.length - (strip l).length) (strip l) = l := by
  match l with
  | [] => rfl
  | [c] => rfl
  | c :: d :: r =>
    unfold strip
    split
    · rename_i hc
      subst hc
      have ih := pad_strip (d :: r)
      have hle := strip_length_le (d :: r)
      rw [show ((48 : UInt8) :: d :: r).length - (strip (d :: r)).length = ((d :: r).length - (strip (d :: r)).length) + 1 by rw [List.length_cons]; omega, pad_succ, ih]
    · rw [Nat.sub_self, pad_zero]
termination_by l.length
def txS (L : List Nat) : ByteArray := ⟨(txt L).toArray⟩
theorem txS_data (L : List Nat) : (txS L).data.toList = 48 :: 120 :: hexOf L := by simp [txS, txt]
theorem txS_size (L : List Nat) : (txS L).size = 2 + 2 * L.length := by rw [txS, size_of_list, txt_length]
theorem txS_ok (L : List Nat) (h : ∀ x ∈ L, x < 256) : rdOk (txS L) = true := by
  refine is_ok ?_ ?_ ?_
  · unfold px; rw [txS_data]; rfl
  · rw [txS_size]; omega
  · rw [txS_data]; exact allHex_hexOf L h
theorem txS_rd (L : List Nat) (h : ∀ x ∈ L, x < 256) : rdL (txS L) = L := by
  unfold rdL
  rw [txS_ok L h, cond_true, txS_data, txS_size, show (2 + 2 * L.length - 2) / 2 = L.length by omega]
  exact prs_hexOf L h
def shS (f : Nat → Nat) : ByteArray := ⟨(shortL f).toArray⟩
theorem shS_data (f : Nat → Nat) : (shS f).data.toList = 48 :: 120 :: strip (hexOf (wl f)) := by simp [shS, shortL]
theorem shS_tl (f : Nat → Nat) : tl (shS f) = strip (hexOf (wl f)) := by unfold tl; rw [shS_data]; rfl
theorem h64 (f : Nat → Nat) : (hexOf (wl f)).length = 64 := by rw [hexOf_length, wl_length]
theorem hex_ne (f : Nat → Nat) : hexOf (wl f) ≠ [] := fun e => by have := h64 f; rw [e] at this; simp at this
theorem shS_ok (f : Nat → Nat) (h : ∀ i, i < 32 → f i < 256) : wOk (shS f) = true := by
  have h1 : px (shS f) = true := by unfold px; rw [shS_data]; rfl
  have hle := strip_length_le (hexOf (wl f))
  rw [h64] at hle
  unfold wOk
  rw [h1, shS_tl, slim_strip _ (hex_ne f), allHex_strip _ (allHex_hexOf _ (wl_lt h)), show decide ((strip (hexOf (wl f))).length ≤ 64) = true by simpa using hle]
  rfl
theorem shS_val (f : Nat → Nat) (h : ∀ i, i < 32 → f i < 256) : bc 32 (wVal (shS f)) = bc 32 f := by
  refine bc_congr fun i hi => ?_
  unfold wVal
  have hp := pad_strip (hexOf (wl f))
  rw [h64] at hp
  rw [shS_tl, hp]
  have := prs_hexOf (wl f) (wl_lt h)
  rw [wl_length] at this
  rw [this]
  simp [wl, hi]
theorem shS_size (f : Nat → Nat) : (shS f).size ≤ 66 := by
  have hle := strip_length_le (hexOf (wl f))
  rw [h64] at hle
  rw [size_data, shS_data, List.length_cons, List.length_cons]; omega
def al (g : Nat → Nat) : List Nat := (List.range 20).map g
theorem al_length (g : Nat → Nat) : (al g).length = 20 := by simp [al]
theorem al_lt {g : Nat → Nat} (h : ∀ i, g i < 256) : ∀ x ∈ al g, x < 256 := by
  intro x hx; obtain ⟨i, _, rfl⟩ := List.mem_map.1 hx; exact h i
theorem aS_ok (g : Nat → Nat) (h : ∀ i, g i < 256) : aOk (txS (al g)) = true := by
  rw [aOk_eq (txS_ok _ (al_lt h)), txS_size, al_length]; rfl
theorem aS_val (g : Nat → Nat) (h : ∀ i, g i < 256) : bc 20 (aVal (txS (al g))) = bc 20 g := by
  refine bc_congr fun i hi => ?_
  unfold aVal
  have e : tl (txS (al g)) = hexOf (al g) := by unfold tl; rw [txS_data]; rfl
  have := prs_hexOf (al g) (al_lt h)
  rw [al_length] at this
  rw [e, this]
  simp [al, hi]
set_option maxHeartbeats 4000000 in
set_option maxRecDepth 100000 in
theorem walk (v : Value) (L : List Nat) (x : Nat) (g : Nat → Nat) (w : World) (hv : RdB w v L) (hx : x < M256) (hg : ∀ i, g i < 256) : Calls Try.prog 4 #[v, .agg (wcells x), .agg (bc 20 g)] w fun e w' => e = .returned (.bool true) ∧ Tch [] w w' := by
  obtain ⟨p, c, rfl⟩ := hv.slice
  have hS := St.start w
  by_cases hl : L.length ≤ 3000
  · have hd : decide ((3000 : Int) < L.length) = false := by simp; omega
    have hL : ∀ y ∈ L, y < 256 := by obtain ⟨_, _, _, _, h, _⟩ := hv; exact h
    have c1 := fun (w1 : World) (h : RdB w1 (.slice p L.length c) L) => hexText_any _ L w1 (by omega) h
    have c2 := fun w1 => hexShort_any x hx w1
    have c3 := fun w1 => (hexRead_any (txS L) w1 (by rw [txS_size]; omega)).mono (fun e w' h => h.both)
    have c4 := fun w1 => (hexWord_any (shS (byt x)) w1 (by have := shS_size (byt x); omega)).mono (fun e w' h => h.both)
    have c5 := fun (b : Nat) (w1 : World) (hB : Blk w1 b 36 (bc 20 g)) => hexText_any _ (al g) w1 (by rw [al_length]; omega) (RdB.blk (n := 20) hB (fun i _ => hg i))
    have c6 := fun w1 => (hexAddr_any (txS (al g)) w1 (by rw [txS_size, al_length]; omega)).mono (fun e w' h => h.both)
    rw [txS_ok L hL, txS_rd L hL] at c3
    rw [shS_ok _ (fun i _ => byt_lt x i), if_pos rfl, shS_val _ (fun i _ => byt_lt x i)] at c4
    rw [aS_ok g hg, if_pos rfl, aS_val g hg] at c6
    simp only [cond_true] at c3 c4 c6
    replace c1 : ∀ w1, RdB w1 (.slice p L.length c) L → Calls Try.prog 15 #[.slice p L.length c] w1 fun e w' => e = .returned (.string (txS L)) ∧ Tch [] w1 w' := c1
    replace c2 : ∀ w1, Calls Try.prog 16 #[.agg (wcells x)] w1 fun e w' => e = .returned (.string (shS (byt x))) ∧ Tch [] w1 w' := c2
    replace c5 : ∀ b w1, Blk w1 b 36 (bc 20 g) → Calls Try.prog 15 #[.slice (some ⟨b, 0, none⟩) 20 20] w1 fun e w' => e = .returned (.string (txS (al g))) ∧ Tch [] w1 w' := c5
    have hsl := fun (b : Nat) (w1 : World) => slice_all (P := Try.prog) (b := b) addr_type u8_size (by decide) w1
    have C := Lib.hid (And.intro c1 (And.intro c2 (And.intro c3 (And.intro c4 (And.intro c5 c6)))))
    have M1 := True.intro
    clear c1 c2 c3 c4 c5 c6 hx hL
    go_enter Try.func4, Try.ntmps4
    go_upto_region 9 with (first | (have _t := b4; clear _t; refine st_box hS rfl _ _ rfl rfl ?_; clear hS; intro w1 b5 hS) | (refine st_box hS rfl _ _ rfl rfl ?_; clear hS; intro w1 b4 hS) | (go_at_call 7; refine (alive_any _).mono ?_; rintro e w2 ⟨rfl, hT⟩; replace hS := hS.call hT; clear hT) | (have _t := M1; clear _t M1; go_at_call 15; refine (C.out.1 _ (hv.tch hS.frame (by simp))).mono ?_; rintro e w2 ⟨rfl, hT⟩; replace hS := hS.call hT; clear hT) | (refine st_load hS rfl 30 _ rfl rfl (by repeat (first | exact At.head | apply At.tail)) word_type rfl word_size (wf_size _) ?_) | (go_at_call 16; refine (C.out.2.1 _).mono ?_; rintro e w2 ⟨rfl, hT⟩; replace hS := hS.call hT; clear hT) | (go_at_call 8; refine (C.out.2.2.1 _).mono ?_; rintro e w2 ⟨u, rfl, hu, hT⟩; replace hS := hS.call hT; clear hT; have hB4 := hS.get (.tail .head); have hB5 := hS.get .head; have hF := hS.frame; clear hS; have hS := St.start w2) | (go_at_call 10; refine (C.out.2.2.2.1 _).mono ?_; rintro e w2 ⟨rfl, hT⟩; replace hS := hS.call hT; clear hT) | (refine st_new hS rfl 30 rfl word_zero ?_; clear hS; intro w5 b12 hS) | (refine st_new hS rfl 36 rfl addr_zero ?_; clear hS; intro w5 b14 hS) | (refine st_store hS rfl 30 _ _ rfl rfl rfl (by repeat (first | exact Upd.head | apply Upd.tail)) word_size (bc_size _ _) (bc_size _ _) (bc_one _ _) ?_; clear hS; intro w1 hS) | (refine st_store hS rfl 36 _ _ rfl rfl rfl (by repeat (first | exact Upd.head | apply Upd.tail)) addr_size (bc_size _ _) (bc_size _ _) (bc_one _ _) ?_; clear hS; intro w1 hS) | (go_at_call 15; refine (C.out.2.2.2.2.1 _ _ (hS.frame.blk hB5 (by simp))).mono ?_; rintro e w2 ⟨rfl, hT⟩; replace hS := hS.call hT; clear hT) | (go_at_call 12; refine (C.out.2.2.2.2.2 _).mono ?_; rintro e w2 ⟨rfl, hT⟩; replace hS := hS.call hT; clear hT))
    have hB12 := hS.get (.tail .head)
    have hB14 := hS.get .head
    replace hv := hv.tch (hF.trans hS.frame) (by simp)
    replace hu := hu.tch hS.frame (by simp)
    replace hB4 := hS.frame.blk hB4 (by simp)
    replace hB5 := hS.frame.blk hB5 (by simp)
    have hFF := hF.trans hS.frame
    refine k_seq (C := fun w' => Tch [] w1 w') (Tch.refl _ _) ?_
    repeat (first | (refine k_skip rfl rfl rfl rfl rfl ?_; try simp only [Act.put, List.setIfInBounds_toArray, List.set_cons_zero, List.set_cons_succ]) | (refine k_num rfl rfl rfl ?_; try simp only [Act.put, List.setIfInBounds_toArray, List.set_cons_zero, List.set_cons_succ]) | (refine k_ints rfl _ _ _ rfl rfl rfl (by with_reducible rfl) ?_; try simp only [Act.put, List.setIfInBounds_toArray, List.set_cons_zero, List.set_cons_succ]) | (refine k_callC1 (v1 := .slice p L.length c) rfl rfl rfl Try.call17 (fun w h => (refText_any _ L w (by omega) (hv.tch h (by simp))).mono fun e w' h2 => ⟨h2.1, h.trans h2.2⟩) ?_; try simp only [Act.put, List.setIfInBounds_toArray, List.set_cons_zero, List.set_cons_succ]) | (refine k_callC1 (v1 := .agg (wcells x)) rfl rfl rfl Try.call18 (fun w h => (refShort_any (byt x) (fun i _ => byt_lt x i) w).mono fun e w' h2 => ⟨h2.1, h.trans h2.2⟩) ?_; try simp only [Act.put, List.setIfInBounds_toArray, List.set_cons_zero, List.set_cons_succ]) | (refine k_add rfl _ _ _ _ rfl rfl rfl (s := 0) (by decide) ?_; try simp only [Act.put, List.setIfInBounds_toArray, List.set_cons_zero, List.set_cons_succ]) | (refine k_loadC rfl 30 _ rfl rfl (b := b4) (fun w h => h.blk hB4 (by simp)) word_type word_size (bc_size _ _) ?_; try simp only [Act.put, List.setIfInBounds_toArray, List.set_cons_zero, List.set_cons_succ]) | (refine k_loadC rfl 36 _ rfl rfl (b := b5) (fun w h => h.blk hB5 (by simp)) addr_type addr_size (bc_size _ _) ?_; try simp only [Act.put, List.setIfInBounds_toArray, List.set_cons_zero, List.set_cons_succ]) | (refine k_loadC rfl 30 _ rfl rfl (b := b12) (fun w h => h.blk hB12 (by simp)) word_type word_size (bc_size _ _) ?_; try simp only [Act.put, List.setIfInBounds_toArray, List.set_cons_zero, List.set_cons_succ]) | (refine k_loadC rfl 36 _ rfl rfl (b := b14) (fun w h => h.blk hB14 (by simp)) addr_type addr_size (bc_size _ _) ?_; try simp only [Act.put, List.setIfInBounds_toArray, List.set_cons_zero, List.set_cons_succ]) | (refine k_arrS rfl 30 _ _ _ rfl rfl rfl (by kernel_rfl) word_type (fun i _ => byt_lt x i) ?_; try simp only [Act.put, List.setIfInBounds_toArray, List.set_cons_zero, List.set_cons_succ]) | (refine k_arrS rfl 36 _ _ _ rfl rfl rfl (by kernel_rfl) addr_type (fun i _ => hg i) ?_; try simp only [Act.put, List.setIfInBounds_toArray, List.set_cons_zero, List.set_cons_succ]) | (refine k_conv rfl _ rfl rfl (v := u) (fun w h => hu.tch h (by simp)) ?_; try simp only [Act.put, List.setIfInBounds_toArray, List.set_cons_zero, List.set_cons_succ]) | (refine k_conv rfl _ rfl rfl (v := .slice p L.length c) (fun w h => hv.tch h (by simp)) ?_; try simp only [Act.put, List.setIfInBounds_toArray, List.set_cons_zero, List.set_cons_succ]) | (refine k_strS rfl _ _ _ rfl rfl rfl ?_; try simp only [Act.put, List.setIfInBounds_toArray, List.set_cons_zero, List.set_cons_succ]) | (refine k_boolm rfl _ rfl rfl ?_; try simp only [Act.put, List.setIfInBounds_toArray, List.set_cons_zero, List.set_cons_succ]) | (refine k_boola rfl _ rfl rfl ?_; try simp only [Act.put, List.setIfInBounds_toArray, List.set_cons_zero, List.set_cons_succ]) | (refine k_intm rfl _ rfl rfl ?_; try simp only [Act.put, List.setIfInBounds_toArray, List.set_cons_zero, List.set_cons_succ]) | (refine k_inta rfl _ rfl rfl ?_; try simp only [Act.put, List.setIfInBounds_toArray, List.set_cons_zero, List.set_cons_succ]) | (refine k_pickT rfl _ _ _ rfl rfl rfl ?_; try simp only [Act.put, List.setIfInBounds_toArray, List.set_cons_zero, List.set_cons_succ]) | (refine k_pickF rfl _ _ _ rfl rfl rfl ?_; try simp only [Act.put, List.setIfInBounds_toArray, List.set_cons_zero, List.set_cons_succ]) | (refine k_bools rfl _ _ _ rfl rfl rfl ?_; try simp only [Act.put, List.setIfInBounds_toArray, List.set_cons_zero, List.set_cons_succ]) | (refine k_val rfl _ (.inl rfl) rfl ?_; try simp only [Act.put, List.setIfInBounds_toArray, List.set_cons_zero, List.set_cons_succ]))
    refine k_end ?_
    intro w' hw'
    go_wp2
    go_ret
    exact ⟨rfl, hFF.trans hw'⟩
  · have hd : decide ((3000 : Int) < L.length) = true := by simp; omega
    go_enter Try.func4, Try.ntmps4
    go_wp2_with (first | (have _t := b4; clear _t; refine st_box hS rfl _ _ rfl rfl ?_; clear hS; intro w1 b5 hS) | (refine st_box hS rfl _ _ rfl rfl ?_; clear hS; intro w1 b4 hS) | (go_at_call 7; refine (alive_any _).mono ?_; rintro e w2 ⟨rfl, hT⟩; replace hS := hS.call hT; clear hT))
    go_ret
    exact ⟨rfl, hS.frame⟩
end Go.Proofs.Ytbmlglnfhapceaa.Texts
