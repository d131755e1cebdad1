/- Push, the program's and the document's. -/
import Derived.Test.YtlliidfkjlmadaaIH
set_option linter.unusedVariables false
set_option linter.unusedSimpArgs false
namespace Go.Proofs.Ytlliidfkjlmadaa
open Go.RowKit
set_option maxRecDepth 100000
set_option maxHeartbeats 4000000

def StkP (B ty : Nat) (w : World) (b : Nat) (v : Value) (ok : Bool) (Ws : List (List Nat)) (e : Ending) (w' : World) : Prop :=
  ∃ v', e = .returned (.bool ok) ∧ StkIn B ty w' b v' Ws ∧ Turned w w' b v v'
theorem StkP.mk {B ty : Nat} {w w' : World} {b : Nat} {v v' : Value} {ok : Bool} {Ws : List (List Nat)} {e : Ending} (h : e = .returned (.bool ok)) (h1 : StkIn B ty w' b v' Ws) (h2 : Turned w w' b v v') : StkP B ty w b v ok Ws e w' := ⟨v', h, h1, h2⟩
def pushOk (Ws : List (List Nat)) : Bool := decide (Ws.length < 1024)
def pushL (Ws : List (List Nat)) (W : List Nat) : List (List Nat) := if Ws.length < 1024 then Ws ++ [W] else Ws
theorem new_far {B ty e m : Nat} {w w1 : World} {b b3 : Nat} {v : Value} {n : Nat} {xs : List Value} {t3 : TypeId} {c3 : Array Value} {L : List Ent} (h : RowIn B ty e m w b v n xs) (hS : St [b] w w1 ((b3, t3, c3) :: L)) (hb : b3 ≠ b) : b3 ∉ fpr b v := fun hm => by
  have h1 := (h.lt hm).2
  rcases hS.own .head with h2 | h2
  · omega
  · exact hb (List.mem_singleton.1 h2)
theorem push_any (B b : Nat) (v : Value) (Ws : List (List Nat)) (W : List Nat) (w : World) (h : StkIn B 29 w b v Ws) (hl : Ws.length ≤ 1024) :
    Calls Try.prog 20 #[.pointer (some ⟨b, 0, none⟩), .agg (wv W)] w (StkP B 29 w b v (pushOk Ws) (pushL Ws W)) := by
  obtain ⟨p, c, rfl, hc⟩ := h.slice
  have HH := Lib.hid h
  have hS := St.one h.blk
  clear h
  by_cases hf : Ws.length < 1024
  · rw [show pushOk Ws = true from decide_eq_true hf, show pushL Ws W = Ws ++ [W] from if_pos hf]
    have hf' : ¬ (1024 : Int) ≤ (Ws.length : Int) := by omega
    go_enter Try.func20, Try.ntmps20
    go_upto_region 3 with (first
      | (refine st_box hS rfl 37 _ rfl rfl ?_; clear hS; intro w1 b3 hS)
      | (refine st_cell1 (v := .slice p Ws.length c) hS rfl 27 _ rfl rfl (.tail .head) rfl words_aggI ?_))
    obtain ⟨hM, hTn⟩ := HH.out.kept hS (.tail .head)
    have hb3 := new_far HH.out hS hS.apart2
    have H3 := Lib.hid (fun w' (h : Tch (fpr b (.slice p Ws.length c)) w1 w') => h.blk (hS.get .head) hb3)
    have HB := Lib.hid (fun w' (h : Tch [] w1 w') => h.blk hM.blk (by simp))
    have HM := Lib.hid hM
    have HT := Lib.hid hTn
    clear hM hTn hS hb3
    try simp only [Act.put, List.setIfInBounds_toArray, List.set_cons_zero, List.set_cons_succ]
    refine wp_region_held_drew (S := fun w' => Tch (fpr b (.slice p Ws.length c)) w1 w') (by kernel_rfl) ((Tch.refl _ _).drew) (fun hC => ?_)
    have hD0 : Tch [] w1 w1.drew := (Tch.refl [] w1).drew
    generalize World.drew w1 = u0 at hC hD0 ⊢
    refine held_in (v := (.pointer (some ⟨b, 0, none⟩))) 0 rfl (by kernel_rfl) (by kernel_rfl) (by kernel_rfl) (fun _ _ _ h => h) hC rfl (fun w' hw' => x_val _ (.inl rfl) rfl) ?_
    try simp only [Act.put, List.setIfInBounds_toArray, List.set_cons_zero, List.set_cons_succ]
    refine held_in (v := (.pointer (some ⟨b, 0, none⟩))) 1 rfl (by kernel_rfl) (by kernel_rfl) (by kernel_rfl) (fun _ _ _ h => h) hC rfl (fun w' hw' => x_val _ (.inl rfl) rfl) ?_
    try simp only [Act.put, List.setIfInBounds_toArray, List.set_cons_zero, List.set_cons_succ]
    refine held_in (v := (.pointer (some ⟨b, 0, none⟩))) 2 rfl (by kernel_rfl) (by kernel_rfl) (by kernel_rfl) (fun _ _ _ h => h) hC rfl (fun w' hw' => x_nilck _ rfl rfl) ?_
    try simp only [Act.put, List.setIfInBounds_toArray, List.set_cons_zero, List.set_cons_succ]
    refine held_in (v := (.pointer (some ⟨b, 0, none⟩))) 3 rfl (by kernel_rfl) (by kernel_rfl) (by kernel_rfl) (fun _ _ _ h => h) hC rfl (fun w' hw' => x_fa _ _ _ rfl rfl (fa_stkP _ _)) ?_
    try simp only [Act.put, List.setIfInBounds_toArray, List.set_cons_zero, List.set_cons_succ]
    refine held_in (v := (.agg (wv W))) 5 rfl (by kernel_rfl) (by kernel_rfl) (by kernel_rfl) (fun _ _ _ h => h) hC rfl (fun w' hw' => x_ldB _ rfl rfl (H3.out w' hw')) ?_
    try simp only [Act.put, List.setIfInBounds_toArray, List.set_cons_zero, List.set_cons_succ]
    refine held_two 4 6 (by kernel_rfl) ?_ ?_
    · refine held_x (v := .slice p Ws.length c) rfl rfl (x_cell _ _ rfl rfl ((HB.out _ hD0).cell rfl) words_aggI) ?_
      refine ⟨hC, ?_⟩
      try simp only [Act.put, List.setIfInBounds_toArray, List.set_cons_zero, List.set_cons_succ]
      refine held_one 6 (by kernel_rfl) ?_
      refine held_bsW (W := W) rfl rfl rfl (by rfl) ?_
      intro u1 g1 hT1 hG1 _
      have hC1 := hC.trans (hT1.mono (cs := fpr b (.slice p Ws.length c)) (by simp))
      refine ⟨hC1, ?_⟩
      try simp only [Act.put, List.setIfInBounds_toArray, List.set_cons_zero, List.set_cons_succ]
      refine held_one 7 (by kernel_rfl) ?_
      have hM1 := HM.out.call (hD0.trans hT1)
      have hB1 : B ≤ u1.heap.size := Nat.le_trans hM1.base (Nat.le_of_lt hM1.blk.lt)
      refine held_appW (t := 37) (g := g1) (W := W) rfl rfl rfl (by rfl) (by rfl) hG1 hM1.own hB1 (by omega) ?_
      intro v2 u2 hown2 hT2 hf2 hv2
      have hC2 : Tch (fpr b (.slice p Ws.length c)) w1 u2 := hC1.trans (hT2.mono fun x hx => .inl (List.mem_cons_of_mem _ hx))
      refine ⟨hC2, ?_⟩
      try simp only [Act.put, List.setIfInBounds_toArray, List.set_cons_zero, List.set_cons_succ]
      refine held_in (v := (.pointer (some ⟨b, 0, none⟩))) 8 rfl (by kernel_rfl) (by kernel_rfl) (by kernel_rfl) (fun _ _ _ h => h) hC2 rfl (fun w' hw' => x_nilck _ rfl rfl) ?_
      try simp only [Act.put, List.setIfInBounds_toArray, List.set_cons_zero, List.set_cons_succ]
      refine held_in (v := (.pointer (some ⟨b, 0, none⟩))) 9 rfl (by kernel_rfl) (by kernel_rfl) (by kernel_rfl) (fun _ _ _ h => h) hC2 rfl (fun w' hw' => x_fa _ _ _ rfl rfl (fa_stkP _ _)) ?_
      try simp only [Act.put, List.setIfInBounds_toArray, List.set_cons_zero, List.set_cons_succ]
      have hb2 : b ∉ (Value.slice p Ws.length c).ownBlock.toList := fun hm => hM1.apart (by simpa using hm)
      refine held_one 10 (by kernel_rfl) ?_
      refine held_stV (hT2.blk hM1.blk hb2) (own_one hown2) words_sizeI rfl rfl rfl (by rfl) (by rfl) ?_
      intro u3 hO3 hB3
      refine ⟨hC2.trans (hO3.tch.mono fun x hx => .inl (by rw [List.mem_singleton.1 hx]; exact List.mem_cons_self)), ?_⟩
      obtain ⟨h1, h2⟩ := RowIn.stored hM1 hown2 hT2 hf2 hB3 hO3
      have HF := Lib.hid (And.intro h1 (HT.out.trans ((Turned.of_tch (hD0.trans hT1) _ _).trans h2)))
      refine wpAnyH_done (by kernel_rfl) ?_ _
      clear hM1 hown2 hT2 hf2 hv2 hB3 hO3 h1 h2 hC2 hC1 hC
      go_wp2
      go_ret
      exact StkP.mk rfl HF.out.1 HF.out.2
    · refine held_bsW (W := W) rfl rfl rfl (by rfl) ?_
      intro u1 g1 hT1 hG1 _
      have hC1 := hC.trans (hT1.mono (cs := fpr b (.slice p Ws.length c)) (by simp))
      refine ⟨hC1, ?_⟩
      try simp only [Act.put, List.setIfInBounds_toArray, List.set_cons_zero, List.set_cons_succ]
      refine held_one 4 (by kernel_rfl) ?_
      refine held_x (v := .slice p Ws.length c) rfl rfl (x_cell _ _ rfl rfl ((HB.out _ (hD0.trans hT1)).cell rfl) words_aggI) ?_
      refine ⟨hC1, ?_⟩
      try simp only [Act.put, List.setIfInBounds_toArray, List.set_cons_zero, List.set_cons_succ]
      refine held_one 7 (by kernel_rfl) ?_
      have hM1 := HM.out.call (hD0.trans hT1)
      have hB1 : B ≤ u1.heap.size := Nat.le_trans hM1.base (Nat.le_of_lt hM1.blk.lt)
      refine held_appW (t := 37) (g := g1) (W := W) rfl rfl rfl (by rfl) (by rfl) hG1 hM1.own hB1 (by omega) ?_
      intro v2 u2 hown2 hT2 hf2 hv2
      have hC2 : Tch (fpr b (.slice p Ws.length c)) w1 u2 := hC1.trans (hT2.mono fun x hx => .inl (List.mem_cons_of_mem _ hx))
      refine ⟨hC2, ?_⟩
      try simp only [Act.put, List.setIfInBounds_toArray, List.set_cons_zero, List.set_cons_succ]
      refine held_in (v := (.pointer (some ⟨b, 0, none⟩))) 8 rfl (by kernel_rfl) (by kernel_rfl) (by kernel_rfl) (fun _ _ _ h => h) hC2 rfl (fun w' hw' => x_nilck _ rfl rfl) ?_
      try simp only [Act.put, List.setIfInBounds_toArray, List.set_cons_zero, List.set_cons_succ]
      refine held_in (v := (.pointer (some ⟨b, 0, none⟩))) 9 rfl (by kernel_rfl) (by kernel_rfl) (by kernel_rfl) (fun _ _ _ h => h) hC2 rfl (fun w' hw' => x_fa _ _ _ rfl rfl (fa_stkP _ _)) ?_
      try simp only [Act.put, List.setIfInBounds_toArray, List.set_cons_zero, List.set_cons_succ]
      have hb2 : b ∉ (Value.slice p Ws.length c).ownBlock.toList := fun hm => hM1.apart (by simpa using hm)
      refine held_one 10 (by kernel_rfl) ?_
      refine held_stV (hT2.blk hM1.blk hb2) (own_one hown2) words_sizeI rfl rfl rfl (by rfl) (by rfl) ?_
      intro u3 hO3 hB3
      refine ⟨hC2.trans (hO3.tch.mono fun x hx => .inl (by rw [List.mem_singleton.1 hx]; exact List.mem_cons_self)), ?_⟩
      obtain ⟨h1, h2⟩ := RowIn.stored hM1 hown2 hT2 hf2 hB3 hO3
      have HF := Lib.hid (And.intro h1 (HT.out.trans ((Turned.of_tch (hD0.trans hT1) _ _).trans h2)))
      refine wpAnyH_done (by kernel_rfl) ?_ _
      clear hM1 hown2 hT2 hf2 hv2 hB3 hO3 h1 h2 hC2 hC1 hC
      go_wp2
      go_ret
      exact StkP.mk rfl HF.out.1 HF.out.2
  · rw [show pushOk Ws = false from decide_eq_false hf, show pushL Ws W = Ws from if_neg hf]
    have hf' : (1024 : Int) ≤ (Ws.length : Int) := by omega
    go_enter Try.func20, Try.ntmps20
    go_wp2_with (first
      | (refine st_box hS rfl 37 _ rfl rfl ?_; clear hS; intro w1 b3 hS)
      | (refine st_cell1 (v := .slice p Ws.length c) hS rfl 27 _ rfl rfl (.tail .head) rfl words_aggI ?_))
    go_ret
    obtain ⟨h1, h2⟩ := HH.out.kept hS (.tail .head)
    exact StkP.mk rfl h1 h2
theorem rpush_any (B b : Nat) (v : Value) (Ws : List (List Nat)) (W : List Nat) (w : World) (h : StkIn B 35 w b v Ws) (hl : Ws.length ≤ 1024) :
    Calls Try.prog 27 #[.pointer (some ⟨b, 0, none⟩), .agg (wv W)] w (StkP B 35 w b v (pushOk Ws) (pushL Ws W)) := by
  obtain ⟨p, c, rfl, hc⟩ := h.slice
  have HH := Lib.hid h
  have hS := St.one h.blk
  clear h
  by_cases hf : Ws.length < 1024
  · rw [show pushOk Ws = true from decide_eq_true hf, show pushL Ws W = Ws ++ [W] from if_pos hf]
    have hf' : ¬ (1024 : Int) ≤ (Ws.length : Int) := by omega
    go_enter Try.func27, Try.ntmps27
    go_upto_region 3 with (first
      | (refine st_box hS rfl 37 _ rfl rfl ?_; clear hS; intro w1 b3 hS)
      | (refine st_cell1 (v := .slice p Ws.length c) hS rfl 27 _ rfl rfl (.tail .head) rfl words_aggI ?_))
    obtain ⟨hM, hTn⟩ := HH.out.kept hS (.tail .head)
    have hb3 := new_far HH.out hS hS.apart2
    have H3 := Lib.hid (fun w' (h : Tch (fpr b (.slice p Ws.length c)) w1 w') => h.blk (hS.get .head) hb3)
    have HB := Lib.hid (fun w' (h : Tch [] w1 w') => h.blk hM.blk (by simp))
    have HM := Lib.hid hM
    have HT := Lib.hid hTn
    clear hM hTn hS hb3
    try simp only [Act.put, List.setIfInBounds_toArray, List.set_cons_zero, List.set_cons_succ]
    refine wp_region_held_drew (S := fun w' => Tch (fpr b (.slice p Ws.length c)) w1 w') (by kernel_rfl) ((Tch.refl _ _).drew) (fun hC => ?_)
    have hD0 : Tch [] w1 w1.drew := (Tch.refl [] w1).drew
    generalize World.drew w1 = u0 at hC hD0 ⊢
    refine held_in (v := (.pointer (some ⟨b, 0, none⟩))) 0 rfl (by kernel_rfl) (by kernel_rfl) (by kernel_rfl) (fun _ _ _ h => h) hC rfl (fun w' hw' => x_val _ (.inl rfl) rfl) ?_
    try simp only [Act.put, List.setIfInBounds_toArray, List.set_cons_zero, List.set_cons_succ]
    refine held_in (v := (.pointer (some ⟨b, 0, none⟩))) 1 rfl (by kernel_rfl) (by kernel_rfl) (by kernel_rfl) (fun _ _ _ h => h) hC rfl (fun w' hw' => x_val _ (.inl rfl) rfl) ?_
    try simp only [Act.put, List.setIfInBounds_toArray, List.set_cons_zero, List.set_cons_succ]
    refine held_in (v := (.pointer (some ⟨b, 0, none⟩))) 2 rfl (by kernel_rfl) (by kernel_rfl) (by kernel_rfl) (fun _ _ _ h => h) hC rfl (fun w' hw' => x_nilck _ rfl rfl) ?_
    try simp only [Act.put, List.setIfInBounds_toArray, List.set_cons_zero, List.set_cons_succ]
    refine held_in (v := (.pointer (some ⟨b, 0, none⟩))) 3 rfl (by kernel_rfl) (by kernel_rfl) (by kernel_rfl) (fun _ _ _ h => h) hC rfl (fun w' hw' => x_fa _ _ _ rfl rfl (fa_stkR _ _)) ?_
    try simp only [Act.put, List.setIfInBounds_toArray, List.set_cons_zero, List.set_cons_succ]
    refine held_in (v := (.agg (wv W))) 5 rfl (by kernel_rfl) (by kernel_rfl) (by kernel_rfl) (fun _ _ _ h => h) hC rfl (fun w' hw' => x_ldB _ rfl rfl (H3.out w' hw')) ?_
    try simp only [Act.put, List.setIfInBounds_toArray, List.set_cons_zero, List.set_cons_succ]
    refine held_two 4 6 (by kernel_rfl) ?_ ?_
    · refine held_x (v := .slice p Ws.length c) rfl rfl (x_cell _ _ rfl rfl ((HB.out _ hD0).cell rfl) words_aggI) ?_
      refine ⟨hC, ?_⟩
      try simp only [Act.put, List.setIfInBounds_toArray, List.set_cons_zero, List.set_cons_succ]
      refine held_one 6 (by kernel_rfl) ?_
      refine held_bsW (W := W) rfl rfl rfl (by rfl) ?_
      intro u1 g1 hT1 hG1 _
      have hC1 := hC.trans (hT1.mono (cs := fpr b (.slice p Ws.length c)) (by simp))
      refine ⟨hC1, ?_⟩
      try simp only [Act.put, List.setIfInBounds_toArray, List.set_cons_zero, List.set_cons_succ]
      refine held_one 7 (by kernel_rfl) ?_
      have hM1 := HM.out.call (hD0.trans hT1)
      have hB1 : B ≤ u1.heap.size := Nat.le_trans hM1.base (Nat.le_of_lt hM1.blk.lt)
      refine held_appW (t := 37) (g := g1) (W := W) rfl rfl rfl (by rfl) (by rfl) hG1 hM1.own hB1 (by omega) ?_
      intro v2 u2 hown2 hT2 hf2 hv2
      have hC2 : Tch (fpr b (.slice p Ws.length c)) w1 u2 := hC1.trans (hT2.mono fun x hx => .inl (List.mem_cons_of_mem _ hx))
      refine ⟨hC2, ?_⟩
      try simp only [Act.put, List.setIfInBounds_toArray, List.set_cons_zero, List.set_cons_succ]
      refine held_in (v := (.pointer (some ⟨b, 0, none⟩))) 8 rfl (by kernel_rfl) (by kernel_rfl) (by kernel_rfl) (fun _ _ _ h => h) hC2 rfl (fun w' hw' => x_nilck _ rfl rfl) ?_
      try simp only [Act.put, List.setIfInBounds_toArray, List.set_cons_zero, List.set_cons_succ]
      refine held_in (v := (.pointer (some ⟨b, 0, none⟩))) 9 rfl (by kernel_rfl) (by kernel_rfl) (by kernel_rfl) (fun _ _ _ h => h) hC2 rfl (fun w' hw' => x_fa _ _ _ rfl rfl (fa_stkR _ _)) ?_
      try simp only [Act.put, List.setIfInBounds_toArray, List.set_cons_zero, List.set_cons_succ]
      have hb2 : b ∉ (Value.slice p Ws.length c).ownBlock.toList := fun hm => hM1.apart (by simpa using hm)
      refine held_one 10 (by kernel_rfl) ?_
      refine held_stV (hT2.blk hM1.blk hb2) (own_one hown2) words_sizeI rfl rfl rfl (by rfl) (by rfl) ?_
      intro u3 hO3 hB3
      refine ⟨hC2.trans (hO3.tch.mono fun x hx => .inl (by rw [List.mem_singleton.1 hx]; exact List.mem_cons_self)), ?_⟩
      obtain ⟨h1, h2⟩ := RowIn.stored hM1 hown2 hT2 hf2 hB3 hO3
      have HF := Lib.hid (And.intro h1 (HT.out.trans ((Turned.of_tch (hD0.trans hT1) _ _).trans h2)))
      refine wpAnyH_done (by kernel_rfl) ?_ _
      clear hM1 hown2 hT2 hf2 hv2 hB3 hO3 h1 h2 hC2 hC1 hC
      go_wp2
      go_ret
      exact StkP.mk rfl HF.out.1 HF.out.2
    · refine held_bsW (W := W) rfl rfl rfl (by rfl) ?_
      intro u1 g1 hT1 hG1 _
      have hC1 := hC.trans (hT1.mono (cs := fpr b (.slice p Ws.length c)) (by simp))
      refine ⟨hC1, ?_⟩
      try simp only [Act.put, List.setIfInBounds_toArray, List.set_cons_zero, List.set_cons_succ]
      refine held_one 4 (by kernel_rfl) ?_
      refine held_x (v := .slice p Ws.length c) rfl rfl (x_cell _ _ rfl rfl ((HB.out _ (hD0.trans hT1)).cell rfl) words_aggI) ?_
      refine ⟨hC1, ?_⟩
      try simp only [Act.put, List.setIfInBounds_toArray, List.set_cons_zero, List.set_cons_succ]
      refine held_one 7 (by kernel_rfl) ?_
      have hM1 := HM.out.call (hD0.trans hT1)
      have hB1 : B ≤ u1.heap.size := Nat.le_trans hM1.base (Nat.le_of_lt hM1.blk.lt)
      refine held_appW (t := 37) (g := g1) (W := W) rfl rfl rfl (by rfl) (by rfl) hG1 hM1.own hB1 (by omega) ?_
      intro v2 u2 hown2 hT2 hf2 hv2
      have hC2 : Tch (fpr b (.slice p Ws.length c)) w1 u2 := hC1.trans (hT2.mono fun x hx => .inl (List.mem_cons_of_mem _ hx))
      refine ⟨hC2, ?_⟩
      try simp only [Act.put, List.setIfInBounds_toArray, List.set_cons_zero, List.set_cons_succ]
      refine held_in (v := (.pointer (some ⟨b, 0, none⟩))) 8 rfl (by kernel_rfl) (by kernel_rfl) (by kernel_rfl) (fun _ _ _ h => h) hC2 rfl (fun w' hw' => x_nilck _ rfl rfl) ?_
      try simp only [Act.put, List.setIfInBounds_toArray, List.set_cons_zero, List.set_cons_succ]
      refine held_in (v := (.pointer (some ⟨b, 0, none⟩))) 9 rfl (by kernel_rfl) (by kernel_rfl) (by kernel_rfl) (fun _ _ _ h => h) hC2 rfl (fun w' hw' => x_fa _ _ _ rfl rfl (fa_stkR _ _)) ?_
      try simp only [Act.put, List.setIfInBounds_toArray, List.set_cons_zero, List.set_cons_succ]
      have hb2 : b ∉ (Value.slice p Ws.length c).ownBlock.toList := fun hm => hM1.apart (by simpa using hm)
      refine held_one 10 (by kernel_rfl) ?_
      refine held_stV (hT2.blk hM1.blk hb2) (own_one hown2) words_sizeI rfl rfl rfl (by rfl) (by rfl) ?_
      intro u3 hO3 hB3
      refine ⟨hC2.trans (hO3.tch.mono fun x hx => .inl (by rw [List.mem_singleton.1 hx]; exact List.mem_cons_self)), ?_⟩
      obtain ⟨h1, h2⟩ := RowIn.stored hM1 hown2 hT2 hf2 hB3 hO3
      have HF := Lib.hid (And.intro h1 (HT.out.trans ((Turned.of_tch (hD0.trans hT1) _ _).trans h2)))
      refine wpAnyH_done (by kernel_rfl) ?_ _
      clear hM1 hown2 hT2 hf2 hv2 hB3 hO3 h1 h2 hC2 hC1 hC
      go_wp2
      go_ret
      exact StkP.mk rfl HF.out.1 HF.out.2
  · rw [show pushOk Ws = false from decide_eq_false hf, show pushL Ws W = Ws from if_neg hf]
    have hf' : (1024 : Int) ≤ (Ws.length : Int) := by omega
    go_enter Try.func27, Try.ntmps27
    go_wp2_with (first
      | (refine st_box hS rfl 37 _ rfl rfl ?_; clear hS; intro w1 b3 hS)
      | (refine st_cell1 (v := .slice p Ws.length c) hS rfl 27 _ rfl rfl (.tail .head) rfl words_aggI ?_))
    go_ret
    obtain ⟨h1, h2⟩ := HH.out.kept hS (.tail .head)
    exact StkP.mk rfl h1 h2
end Go.Proofs.Ytlliidfkjlmadaa
