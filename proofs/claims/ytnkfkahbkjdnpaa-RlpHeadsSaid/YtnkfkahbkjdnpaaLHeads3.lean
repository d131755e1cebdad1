/- The law RlpHeads: a list. -/
import Derived.Test.YtnkfkahbkjdnpaaLHeads2
import Derived.Test.YtnkfkahbkjdnpaaR29
namespace Go.Proofs.Ytnkfkahbkjdnpaa.Heads
open Go.RowKit

/-- What holds behind some rounds of the second loop. -/
def LI (w : World) (b6 b8 N bM i : Nat) (wr : World) : Prop :=
  ∃ p c, St [] w wr [(b8, 25, #[.bool true, .slice none 0 0, .slice p i c]), (b6, 25, #[.bool false, .slice (some ⟨bM, 0, none⟩) N N, .slice none 0 0])] ∧ IRow [b8, b6] w.heap.size 1 wr (.slice p i c) (List.replicate i (.str [7])) ∧ ∀ g, (Value.slice p i c).ownBlock = some g → g ≠ b8 ∧ g ≠ b6
theorem li_start {w wr : World} {b6 b8 N bM : Nat} (h : St [] w wr [(b8, 25, #[.bool true, .slice none 0 0, .slice none 0 0]), (b6, 25, #[.bool false, .slice (some ⟨bM, 0, none⟩) N N, .slice none 0 0])]) : LI w b6 b8 N bM 0 wr :=
  ⟨none, 0, h, IRow.nil _ _ _ _, fun g hg => by simp [Value.ownBlock] at hg⟩
theorem sev_itc {wr : World} {Y : List Nat} (hY : ∀ y ∈ Y, y < wr.heap.size) : ItC Y (wr.alloc (.cells #[.int .u8 7] 5)) 1 (.bool false) (.slice (some ⟨wr.heap.size, 0, none⟩) 1 1) (.slice none 0 0) (.str [7]) := by
  have hB := Blk.new wr 5 #[.int .u8 7]
  unfold ItC
  refine ⟨rfl, ⟨_, _, rfl, Nat.le_refl _, by simp, fun _ => ⟨wr.heap.size, 0, rfl, hB.lt, fun hm => by have := hY _ hm; omega, fun j hj => ?_⟩⟩, by simp⟩
  obtain rfl : j = 0 := by simp at hj; exact hj
  exact hB.cell rfl
theorem li_low {w wr : World} {b6 b8 k : Nat} {c8 c6 : Array Value} {v : Value} {ts : List It} {Z : List Nat} (hS : St [] w wr [(b8, 25, c8), (b6, 25, c6)]) (hR : IRow [b8, b6] w.heap.size k wr v ts) (hZ : ∀ z ∈ Z, z < w.heap.size) : ∀ y ∈ v.ownBlock.toList ++ ([b8, b6] ++ Z), y < wr.heap.size := by
  intro y hy
  rcases List.mem_append.1 hy with hy | hy
  · exact (hR.lt y (by simpa using hy)).2
  rcases List.mem_append.1 hy with hy | hy
  · simp only [List.mem_cons, List.not_mem_nil, or_false] at hy
    rcases hy with rfl | rfl
    · exact (hS.get .head).lt
    · exact (hS.get (.tail .head)).lt
  · exact Nat.lt_of_lt_of_le (hZ y hy) hS.frame.size
theorem li_next {w wr w10 : World} {b6 b8 i c : Nat} {p : Option Addr} {o : Obj} {c8 c6 : Array Value} (hS : St [] w wr [(b8, 25, c8), (b6, 25, c6)]) (hT : Tch [] w w10) (hkeep : ∀ b, b < (wr.alloc o).heap.size → (Value.slice p i c).ownBlock ≠ some b → w10.heap[b]? = (wr.alloc o).heap[b]?) (hown : ∀ g, (Value.slice p i c).ownBlock = some g → g ≠ b8 ∧ g ≠ b6) : St [] w w10 [(b8, 25, c8), (b6, 25, c6)] := by
  have h8 := (hS.get .head).alloc o
  have h6 := (hS.get (.tail .head)).alloc o
  refine St.of_two hT ?_ ?_ hS.apart2 ((hS.own .head).resolve_right (by simp)) ((hS.own (.tail .head)).resolve_right (by simp))
  · unfold Blk; rw [hkeep b8 h8.lt (fun e => (hown _ e).1 rfl)]; exact h8
  · unfold Blk; rw [hkeep b6 h6.lt (fun e => (hown _ e).2 rfl)]; exact h6
theorem li_own {w wr : World} {b6 b8 i c c4 : Nat} {p p4 : Option Addr} {o : Obj} {c8 c6 : Array Value} (hS : St [] w wr [(b8, 25, c8), (b6, 25, c6)]) (hown : ∀ g, (Value.slice p i c).ownBlock = some g → g ≠ b8 ∧ g ≠ b6) (h : (Value.slice p4 (i + 1) c4).ownBlock = (Value.slice p i c).ownBlock ∨ ∀ g, (Value.slice p4 (i + 1) c4).ownBlock = some g → (wr.alloc o).heap.size ≤ g) : ∀ g, (Value.slice p4 (i + 1) c4).ownBlock = some g → g ≠ b8 ∧ g ≠ b6 := fun g hg => by
  rcases h with e | e
  · rw [e] at hg; exact hown g hg
  · have h1 := e g hg
    have h2 := (hS.get .head).lt
    have h3 := (hS.get (.tail .head)).lt
    simp at h1
    omega
set_option maxHeartbeats 4000000 in
set_option maxRecDepth 100000 in
theorem list_small (N : Nat) (hN : N ≤ 70000) (h55 : N ≤ 55) (w : World) : Calls Try.prog 7 #[.int .i64 (N : Int), .bool true] w fun e w' => e = .returned (.bool true) ∧ Tch [] w w' := by
  obtain ⟨f0, f1, f2, hty, _⟩ := item_ty
  have hS := St.start w
  have hd0 : ¬ (N : Int) < 0 := by omega
  have hd1 : ¬ (70000 : Int) < (N : Int) := by omega
  have hd55 : ¬ (55 : Int) < (N : Int) := by omega
  go_enter Try.func7, Try.ntmps7
  go_wp2_with (first
    | (go_at_call 10; refine (alive_any _).mono ?_; rintro e w1 ⟨rfl, hT1⟩; replace hS := hS.call hT1)
    | (refine st_makeB N hS rfl _ _ rfl (by rfl) (by rfl) (by omega) ?_; clear hS; intro w2 bM hS)
    | (refine st_new (L := [(bM, 5, bc N fun _ => 0)]) hS rfl 25 rfl item_zero ?_; clear hS; intro w3 b6 hS)
    | (refine st_store (c' := #[.bool false, .slice (some ⟨bM, 0, none⟩) N N, .slice none 0 0]) hS rfl 25 _ _ rfl rfl rfl (by repeat (first | exact Upd.head | apply Upd.tail)) item_size (by rfl) (by rfl) (one3 rfl rfl rfl) ?_; clear hS; intro w4 hS))
  have H4 := Lib.hid hS
  clear hS
  go_loopw [7] (fun kv wr => ∃ k : Nat, k ≤ N ∧ kv = .int .i64 (k : Int) ∧ St [] w wr [(b6, 25, #[.bool false, .slice (some ⟨bM, 0, none⟩) N N, .slice none 0 0]), (bM, 5, two00 N k)]) (fun kv _ => N - (intOf kv).toNat)
  case atStart => exact ⟨0, Nat.zero_le _, rfl, by simpa [two00] using H4.out⟩
  case round =>
    obtain ⟨k, hk, rfl, hS⟩ := hrel
    by_cases hlt : k < N
    · have hlt' : (k : Int) < (N : Int) := by omega
      have hcl := (hS.get .head).cell (j := 1) rfl
      have HSET := Lib.hid (two00_set hlt)
      go_wp2_with (refine st_store1 (b := bM) (j := k) hS rfl 5 _ _ rfl (by first | rfl | (rw [Nat.zero_add]; rfl)) rfl u8_size (by repeat (first | exact Upd.head | apply Upd.tail)) (by unfold two00; rw [bc_size]; exact hlt) ?_; clear hS; intro w5 hS)
      go_roundw
      case rel => exact ⟨k + 1, hlt, by go_num, by rw [← HSET.out]; exact hS⟩
      case measure => simp [intOf]; omega
    · obtain rfl : k = N := by omega
      have hnl : ¬ (k : Int) < (k : Int) := by omega
      generalize hkN : k = N at *
      clear hkN
      have hB6 := hS.get .head
      have hge6 := (hS.own .head).resolve_right (by simp)
      have hF := hS.frame
      clear hS
      have hS := (St.start w).callNew hF hB6 hge6
      clear hB6 hF
      go_wp2_with (first
        | (refine st_new (L := [(b6, 25, #[.bool false, .slice (some ⟨bM, 0, none⟩) N N, .slice none 0 0])]) hS rfl 25 rfl item_zero ?_; clear hS; intro w7 b8 hS)
        | (refine st_store (c' := #[.bool true, .slice none 0 0, .slice none 0 0]) hS rfl 25 _ _ rfl rfl rfl (by repeat (first | exact Upd.head | apply Upd.tail)) item_size (by rfl) (by rfl) (one3 rfl rfl rfl) ?_; clear hS; intro w8 hS))
      have H8 := Lib.hid hS
      clear hS
      go_loopw [9] (fun kv wr => ∃ i : Nat, i ≤ N ∧ i ≤ 700 ∧ kv = .int .i64 (i : Int) ∧ LI w b6 b8 N bM i wr) (fun kv _ => 700 - (intOf kv).toNat)
      case atStart => exact ⟨0, Nat.zero_le _, by omega, rfl, li_start H8.out⟩
      case round =>
        obtain ⟨i, hiN, hi7, rfl, p, c, hS, hR, hown⟩ := hrel
        have HR := Lib.hid hR
        have HOWN := Lib.hid hown
        have hne := hS.apart2
        have hge8 := (hS.own .head).resolve_right (by simp)
        have hge6 := (hS.own (.tail .head)).resolve_right (by simp)
        clear hR hown
        by_cases hmore : i < N ∧ i < 700
        · have hlt : (i : Int) < (N : Int) := by omega
          have hlt7 : (i : Int) < 700 := by omega
          have hcl := (hS.get .head).cell (j := 2) rfl
          go_wp2_with (first
            | (at_builtin
               go_must (
                 refine st_appendI (w0 := w) (w := wr.alloc (.cells #[.int .u8 7] 5)) (X := [b8, b6]) (k := 1) (v := .slice p i c) (y0 := .bool false) (yb := .slice (some ⟨wr.heap.size, 0, none⟩) 1 1) (yl := .slice none 0 0) (ts := List.replicate i (.str [7])) (t := .str [7]) (by rfl) _ _ (by rfl) (by rfl) (by first | rfl | (simp only [World.alloc, Array.size_push]; rfl)) (HR.out.call ((Tch.refl _ _).alloc _)) (fun Z hZ => sev_itc (fun y hy => li_low hS HR.out hZ y hy)) (one3 rfl rfl rfl) (hS.frame.alloc _) (by rw [List.length_replicate]; omega) ?_
                 intro p4 c4 w10 hR10 hT10 hsz hkeep hown10
                 rw [List.length_replicate] at hR10 hown10
                 have hS10 := li_next (p := p) (c := c) hS hT10 hkeep HOWN.out
                 have HO11 := Lib.hid (li_own hS HOWN.out hown10)
                 have HR10 := Lib.hid hR10
                 clear hS hcl hR10 hT10 hsz hkeep hown10
                 have hS := hS10
                 clear hS10))
            | (refine arm_store1 (b := b8) (j := 2) (v := .slice p4 (i + 1) c4) rfl 23 _ _ rfl rfl rfl rfl sli_size (hS.get .head) (by show 2 < 3; decide) ?_
               intro w11 hB11 hO11
               have hS11 := hS.upd .head hO11 hB11
               have HR11 := Lib.hid (HR10.out.only hO11 (by simp) (fun e => (HO11.out _ e).1 rfl))
               clear hS hB11 hO11
               have hS := hS11
               clear hS11))
          go_roundw
          case rel => exact ⟨i + 1, by omega, by omega, by go_num, p4, c4, hS, by rw [List.replicate_succ']; exact HR11.out, HO11.out⟩
          case measure => simp [intOf]; omega
        · obtain rfl : i = N := by omega
          have hnl2 : ¬ (i : Int) < (i : Int) := by omega
          have h700 : ¬ (700 : Int) < (i : Int) := by omega
          have hit0 := (HR.out.itc (vb := .slice none 0 0) (Y := [b6]) (by rw [List.length_replicate]; omega) (fun y hy => .inl (by simp at hy; subst hy; exact ⟨by simp, fun e => (HOWN.out _ e).2 rfl⟩))).up (show 2 ≤ 34 by omega)
          have HIT0 := Lib.hid hit0
          clear hit0
          go_upto_region 16 with (first
            | (refine st_load (b := b8) hS rfl 25 _ rfl rfl (by repeat (first | exact At.head | apply At.tail)) hty rfl item_size (by rfl) ?_)
            | (refine arm_store (w' := wr.setRow b6 #[.bool true, .slice none 0 0, .slice p i c]) (b := b6) (c := #[.bool true, .slice none 0 0, .slice p i c]) rfl 25 _ _ rfl rfl rfl ((hS.get (.tail .head)).store item_size (by rfl) (by rfl) (one3 rfl rfl rfl)) ?_))
          have hS9 := hS.upd (.tail .head) (Only.setRow wr b6 #[.bool true, .slice none 0 0, .slice p i c]) ((hS.get (.tail .head)).row _)
          have hB9 := hS9.get (.tail .head)
          have hF9 := hS9.frame
          have HIT : Hid (ItC [b6] (wr.setRow b6 #[.bool true, .slice none 0 0, .slice p i c]) 34 (.bool true) (.slice none 0 0) (.slice p i c) (itL i)) := Lib.hid (HIT0.out.tch ((Tch.refl _ _).only (Only.setRow _ _ _) (.inr (by simp))))
          have HG : Hid (Good i (itL i)) := Lib.hid ⟨len_itL i, dep_itL i, hN⟩
          clear hS hS9 HIT0 HR HOWN
          have hS := (St.start w).callNew hF9 hB9 hge6
          clear hB9 hF9
          generalize wr.setRow b6 #[.bool true, .slice none 0 0, .slice p i c] = w90 at *
          generalize hiN9 : i = N at *
          clear hiN9
          have HGE := Lib.hid ((hS.own .head).resolve_right (by simp))
          have HF := Lib.hid hS.frame
          have hB6 := hS.get .head
          clear hS
          have hS := St.one hB6
          have HP := Lib.hid (packs HG.out (enc_lt HIT.out HG.out.le) (HIT.out.mono (by simp)))
          clear hB6
          go_upto_region 26 with (first
            | (refine st_load (b := b6) hS rfl 25 _ rfl rfl (by repeat (first | exact At.head | apply At.tail)) hty rfl item_size (by rfl) ?_)
            | (go_at_call 12; (with_reducible refine HP.out.mono ?_); clear HP; rintro e w5 ⟨bp, rfl, hT5, hr5⟩; have HR5 := Lib.hid hr5; clear hr5; replace hS := hS.call hT5)
            | (go_at_call 15; (with_reducible refine (reads HG.out HR5.out).mono ?_)
               rintro e w7 ⟨d, p1, n1, c1, p2, n2, c2, rfl, hT7, hx7⟩
               have hS7 := hS.call hT7
               have hlt6 := (hS.get .head).lt
               have hF7 := hS7.frame
               clear hS
               have hS := St.one (hS7.get .head)
               clear hS7)
            | (refine st_new (L := [(b6, 25, #[.bool true, .slice none 0 0, .slice p N c])]) hS rfl 25 rfl item_zero ?_; clear hS; intro w8 b14 hS)
            | (refine st_store (c' := #[.bool d, .slice p1 n1 c1, .slice p2 n2 c2]) hS rfl 25 _ _ rfl rfl rfl (by repeat (first | exact Upd.head | apply Upd.tail)) item_size (by rfl) (by rfl) (one3 rfl rfl rfl) ?_; clear hS; intro w9 hS))
          have hB14 := hS.get .head
          have hB6 := hS.get (.tail .head)
          have hix : ItC [] w9 34 (.bool d) (.slice p1 n1 c1) (.slice p2 n2 c2) (itL N) := ((hx7 [b6] (fun y hy => by simp at hy; subst hy; exact hlt6)).tch hS.frame).mono (by simp)
          have hiy : ItC [] w9 34 (.bool true) (.slice none 0 0) (.slice p N c) (itL N) := ((HIT.out.tch hF7).tch hS.frame).mono (by simp)
          have hsame := fun (w' : World) (hT : Tch [] w9 w') => (same_any 34 _ _ _ _ _ _ _ _ w' (hix.tch hT) (hiy.tch hT)).mono (R' := fun e w'' => e = .returned (.bool true) ∧ Tch [] w9 w'') (fun e w'' h => ⟨by rw [h.1, (eqI_iff _ _).2 rfl], hT.trans h.2⟩)
          have hend : Tch [] w w9 := HF.out.fresh ((hF7.trans hS.frame)) (fun y hy => by simp at hy; subst hy; exact HGE.out)
          clear hix hiy hx7 hS hF7 hT5 hT7
          have HE := Lib.hid hend
          clear hend
          generalize hMM : hsz N + N = M at *
          have hsum : IntKind.i64.wrap (1 + (N : Int)) = (M : Int) := by rw [IntKind.wrap_i64, ← hMM, hsz_small h55]; omega
          clear hMM
          refine k_seq (C := fun w' => Tch [] w9 w') (Tch.refl _ _) ?_
          repeat (first | (refine k_skip rfl rfl rfl rfl rfl ?_; try simp only [Act.put, List.setIfInBounds_toArray, List.set_cons_zero, List.set_cons_succ]) | (refine k_num rfl rfl rfl ?_; try simp only [Act.put, List.setIfInBounds_toArray, List.set_cons_zero, List.set_cons_succ]) | (refine k_boolm rfl _ rfl rfl ?_; try simp only [Act.put, List.setIfInBounds_toArray, List.set_cons_zero, List.set_cons_succ]) | (refine k_boola rfl _ rfl rfl ?_; try simp only [Act.put, List.setIfInBounds_toArray, List.set_cons_zero, List.set_cons_succ]) | (refine k_intm rfl _ rfl rfl ?_; try simp only [Act.put, List.setIfInBounds_toArray, List.set_cons_zero, List.set_cons_succ]) | (refine k_inta rfl _ rfl rfl ?_; try simp only [Act.put, List.setIfInBounds_toArray, List.set_cons_zero, List.set_cons_succ]) | (refine k_add (s := 0) rfl _ _ _ _ (by rfl) (by rfl) (by rfl) (by decide) ?_; try simp only [Act.put, List.setIfInBounds_toArray, List.set_cons_zero, List.set_cons_succ]) | (refine k_add (s := (M : Int)) rfl _ _ _ _ (by rfl) (by rfl) (by rfl) (by exact hsum) ?_; try simp only [Act.put, List.setIfInBounds_toArray, List.set_cons_zero, List.set_cons_succ]) | (refine k_ints (t := true) rfl _ _ _ (by rfl) (by rfl) (by rfl) (by first | decide | exact beq_self_eq_true _) ?_; try simp only [Act.put, List.setIfInBounds_toArray, List.set_cons_zero, List.set_cons_succ]) | (refine k_lenSl rfl _ rfl (by rfl) ?_; try simp only [Act.put, List.setIfInBounds_toArray, List.set_cons_zero, List.set_cons_succ]) | (refine k_slice rfl _ rfl rfl ?_; try simp only [Act.put, List.setIfInBounds_toArray, List.set_cons_zero, List.set_cons_succ]) | (refine k_loadS rfl 25 _ rfl rfl (fun w h => h.blk hB14 (by simp)) hty item_size rfl ?_; try simp only [Act.put, List.setIfInBounds_toArray, List.set_cons_zero, List.set_cons_succ]) | (refine k_loadS rfl 25 _ rfl rfl (fun w h => h.blk hB6 (by simp)) hty item_size rfl ?_; try simp only [Act.put, List.setIfInBounds_toArray, List.set_cons_zero, List.set_cons_succ]) | (refine k_callC2 (by rfl) (by rfl) (by rfl) (by rfl) Try.call16 (by exact hsame) ?_; try simp only [Act.put, List.setIfInBounds_toArray, List.set_cons_zero, List.set_cons_succ]) | (refine k_pickT rfl _ _ _ rfl rfl rfl ?_; try simp only [Act.put, List.setIfInBounds_toArray, List.set_cons_zero, List.set_cons_succ]) | (refine k_pickF rfl _ _ _ rfl rfl rfl ?_; try simp only [Act.put, List.setIfInBounds_toArray, List.set_cons_zero, List.set_cons_succ]))
          refine k_end ?_
          rintro w' hT'
          go_wp2
          go_ret
          exact ⟨rfl, HE.out.trans hT'⟩
set_option maxHeartbeats 4000000 in
set_option maxRecDepth 100000 in
theorem list_great (N : Nat) (hN : N ≤ 70000) (h55 : 55 < N) (h7 : N ≤ 700) (w : World) : Calls Try.prog 7 #[.int .i64 (N : Int), .bool true] w fun e w' => e = .returned (.bool true) ∧ Tch [] w w' := by
  obtain ⟨f0, f1, f2, hty, _⟩ := item_ty
  have hS := St.start w
  have hd0 : ¬ (N : Int) < 0 := by omega
  have hd1 : ¬ (70000 : Int) < (N : Int) := by omega
  have hd55 : (55 : Int) < (N : Int) := by omega
  go_enter Try.func7, Try.ntmps7
  go_wp2_with (first
    | (go_at_call 10; refine (alive_any _).mono ?_; rintro e w1 ⟨rfl, hT1⟩; replace hS := hS.call hT1)
    | (refine st_makeB N hS rfl _ _ rfl (by rfl) (by rfl) (by omega) ?_; clear hS; intro w2 bM hS)
    | (refine st_new (L := [(bM, 5, bc N fun _ => 0)]) hS rfl 25 rfl item_zero ?_; clear hS; intro w3 b6 hS)
    | (refine st_store (c' := #[.bool false, .slice (some ⟨bM, 0, none⟩) N N, .slice none 0 0]) hS rfl 25 _ _ rfl rfl rfl (by repeat (first | exact Upd.head | apply Upd.tail)) item_size (by rfl) (by rfl) (one3 rfl rfl rfl) ?_; clear hS; intro w4 hS))
  have H4 := Lib.hid hS
  clear hS
  go_loopw [7] (fun kv wr => ∃ k : Nat, k ≤ N ∧ kv = .int .i64 (k : Int) ∧ St [] w wr [(b6, 25, #[.bool false, .slice (some ⟨bM, 0, none⟩) N N, .slice none 0 0]), (bM, 5, two00 N k)]) (fun kv _ => N - (intOf kv).toNat)
  case atStart => exact ⟨0, Nat.zero_le _, rfl, by simpa [two00] using H4.out⟩
  case round =>
    obtain ⟨k, hk, rfl, hS⟩ := hrel
    by_cases hlt : k < N
    · have hlt' : (k : Int) < (N : Int) := by omega
      have hcl := (hS.get .head).cell (j := 1) rfl
      have HSET := Lib.hid (two00_set hlt)
      go_wp2_with (refine st_store1 (b := bM) (j := k) hS rfl 5 _ _ rfl (by first | rfl | (rw [Nat.zero_add]; rfl)) rfl u8_size (by repeat (first | exact Upd.head | apply Upd.tail)) (by unfold two00; rw [bc_size]; exact hlt) ?_; clear hS; intro w5 hS)
      go_roundw
      case rel => exact ⟨k + 1, hlt, by go_num, by rw [← HSET.out]; exact hS⟩
      case measure => simp [intOf]; omega
    · obtain rfl : k = N := by omega
      have hnl : ¬ (k : Int) < (k : Int) := by omega
      generalize hkN : k = N at *
      clear hkN
      have hB6 := hS.get .head
      have hge6 := (hS.own .head).resolve_right (by simp)
      have hF := hS.frame
      clear hS
      have hS := (St.start w).callNew hF hB6 hge6
      clear hB6 hF
      go_wp2_with (first
        | (refine st_new (L := [(b6, 25, #[.bool false, .slice (some ⟨bM, 0, none⟩) N N, .slice none 0 0])]) hS rfl 25 rfl item_zero ?_; clear hS; intro w7 b8 hS)
        | (refine st_store (c' := #[.bool true, .slice none 0 0, .slice none 0 0]) hS rfl 25 _ _ rfl rfl rfl (by repeat (first | exact Upd.head | apply Upd.tail)) item_size (by rfl) (by rfl) (one3 rfl rfl rfl) ?_; clear hS; intro w8 hS))
      have H8 := Lib.hid hS
      clear hS
      go_loopw [9] (fun kv wr => ∃ i : Nat, i ≤ N ∧ i ≤ 700 ∧ kv = .int .i64 (i : Int) ∧ LI w b6 b8 N bM i wr) (fun kv _ => 700 - (intOf kv).toNat)
      case atStart => exact ⟨0, Nat.zero_le _, by omega, rfl, li_start H8.out⟩
      case round =>
        obtain ⟨i, hiN, hi7, rfl, p, c, hS, hR, hown⟩ := hrel
        have HR := Lib.hid hR
        have HOWN := Lib.hid hown
        have hne := hS.apart2
        have hge8 := (hS.own .head).resolve_right (by simp)
        have hge6 := (hS.own (.tail .head)).resolve_right (by simp)
        clear hR hown
        by_cases hmore : i < N ∧ i < 700
        · have hlt : (i : Int) < (N : Int) := by omega
          have hlt7 : (i : Int) < 700 := by omega
          have hcl := (hS.get .head).cell (j := 2) rfl
          go_wp2_with (first
            | (at_builtin
               go_must (
                 refine st_appendI (w0 := w) (w := wr.alloc (.cells #[.int .u8 7] 5)) (X := [b8, b6]) (k := 1) (v := .slice p i c) (y0 := .bool false) (yb := .slice (some ⟨wr.heap.size, 0, none⟩) 1 1) (yl := .slice none 0 0) (ts := List.replicate i (.str [7])) (t := .str [7]) (by rfl) _ _ (by rfl) (by rfl) (by first | rfl | (simp only [World.alloc, Array.size_push]; rfl)) (HR.out.call ((Tch.refl _ _).alloc _)) (fun Z hZ => sev_itc (fun y hy => li_low hS HR.out hZ y hy)) (one3 rfl rfl rfl) (hS.frame.alloc _) (by rw [List.length_replicate]; omega) ?_
                 intro p4 c4 w10 hR10 hT10 hsz hkeep hown10
                 rw [List.length_replicate] at hR10 hown10
                 have hS10 := li_next (p := p) (c := c) hS hT10 hkeep HOWN.out
                 have HO11 := Lib.hid (li_own hS HOWN.out hown10)
                 have HR10 := Lib.hid hR10
                 clear hS hcl hR10 hT10 hsz hkeep hown10
                 have hS := hS10
                 clear hS10))
            | (refine arm_store1 (b := b8) (j := 2) (v := .slice p4 (i + 1) c4) rfl 23 _ _ rfl rfl rfl rfl sli_size (hS.get .head) (by show 2 < 3; decide) ?_
               intro w11 hB11 hO11
               have hS11 := hS.upd .head hO11 hB11
               have HR11 := Lib.hid (HR10.out.only hO11 (by simp) (fun e => (HO11.out _ e).1 rfl))
               clear hS hB11 hO11
               have hS := hS11
               clear hS11))
          go_roundw
          case rel => exact ⟨i + 1, by omega, by omega, by go_num, p4, c4, hS, by rw [List.replicate_succ']; exact HR11.out, HO11.out⟩
          case measure => simp [intOf]; omega
        · obtain rfl : i = N := by omega
          have hnl2 : ¬ (i : Int) < (i : Int) := by omega
          have h700 : ¬ (700 : Int) < (i : Int) := by omega
          have hit0 := (HR.out.itc (vb := .slice none 0 0) (Y := [b6]) (by rw [List.length_replicate]; omega) (fun y hy => .inl (by simp at hy; subst hy; exact ⟨by simp, fun e => (HOWN.out _ e).2 rfl⟩))).up (show 2 ≤ 34 by omega)
          have HIT0 := Lib.hid hit0
          clear hit0
          go_upto_region 16 with (first
            | (refine st_load (b := b8) hS rfl 25 _ rfl rfl (by repeat (first | exact At.head | apply At.tail)) hty rfl item_size (by rfl) ?_)
            | (refine arm_store (w' := wr.setRow b6 #[.bool true, .slice none 0 0, .slice p i c]) (b := b6) (c := #[.bool true, .slice none 0 0, .slice p i c]) rfl 25 _ _ rfl rfl rfl ((hS.get (.tail .head)).store item_size (by rfl) (by rfl) (one3 rfl rfl rfl)) ?_))
          have hS9 := hS.upd (.tail .head) (Only.setRow wr b6 #[.bool true, .slice none 0 0, .slice p i c]) ((hS.get (.tail .head)).row _)
          have hB9 := hS9.get (.tail .head)
          have hF9 := hS9.frame
          have HIT : Hid (ItC [b6] (wr.setRow b6 #[.bool true, .slice none 0 0, .slice p i c]) 34 (.bool true) (.slice none 0 0) (.slice p i c) (itL i)) := Lib.hid (HIT0.out.tch ((Tch.refl _ _).only (Only.setRow _ _ _) (.inr (by simp))))
          have HG : Hid (Good i (itL i)) := Lib.hid ⟨len_itL i, dep_itL i, hN⟩
          clear hS hS9 HIT0 HR HOWN
          have hS := (St.start w).callNew hF9 hB9 hge6
          clear hB9 hF9
          generalize wr.setRow b6 #[.bool true, .slice none 0 0, .slice p i c] = w90 at *
          generalize hiN9 : i = N at *
          clear hiN9
          have HGE := Lib.hid ((hS.own .head).resolve_right (by simp))
          have HF := Lib.hid hS.frame
          have hB6 := hS.get .head
          clear hS
          have hS := St.one hB6
          have HP := Lib.hid (packs HG.out (enc_lt HIT.out HG.out.le) (HIT.out.mono (by simp)))
          clear hB6
          go_wp2_with (first
            | (refine st_load (b := b6) hS rfl 25 _ rfl rfl (by repeat (first | exact At.head | apply At.tail)) hty rfl item_size (by rfl) ?_)
            | (go_at_call 12; (with_reducible refine HP.out.mono ?_); clear HP; rintro e w5 ⟨bp, rfl, hT5, hr5⟩; have HR5 := Lib.hid hr5; clear hr5; replace hS := hS.call hT5))
          have H5 := Lib.hid hS
          clear hS
          go_loopw [12, 13] (fun hv kv wr => ∃ a k : Nat, hv = .int .i64 ((1 + a : Nat) : Int) ∧ kv = .int .i64 (k : Int) ∧ a + lsz k = lsz N ∧ k ≤ 70000 ∧ a ≤ 8 ∧ w5 = wr) (fun _ kv _ => (intOf kv).toNat)
          case atStart => exact ⟨0, N, rfl, rfl, by omega, HG.out.small, by omega, rfl⟩
          case round =>
            obtain ⟨a, k, rfl, rfl, hak, hk7, ha8, rfl⟩ := hrel
            by_cases hk0 : 0 < k
            · have hk0' : (0 : Int) < (k : Int) := by omega
              have hstep := lsz_step hk0
              have hl4 := lsz_le (n := N) (by have := HG.out.small; omega)
              have HST := Lib.hid (And.intro hstep (And.intro hl4 hak))
              clear hstep hl4 hak
              go_wp2
              go_roundw
              case rel => exact ⟨a + 1, k / 256, by go_num, by go_num, by have := HST.out; omega, by omega, by have := HST.out; omega, by first | trivial | rfl⟩
              case measure => simp [intOf]; omega
            · obtain rfl : k = 0 := by omega
              rw [lsz_zero] at hak
              have HAK := Lib.hid hak
              have hS := H5.out
              clear hak
              go_upto_region 26 with (first
                | (go_at_call 15; (with_reducible refine (reads HG.out HR5.out).mono ?_)
                   rintro e w7 ⟨d, p1, n1, c1, p2, n2, c2, rfl, hT7, hx7⟩
                   have hS7 := hS.call hT7
                   have hlt6 := (hS.get .head).lt
                   have hF7 := hS7.frame
                   clear hS
                   have hS := St.one (hS7.get .head)
                   clear hS7)
                | (refine st_new (L := [(b6, 25, #[.bool true, .slice none 0 0, .slice p N c])]) hS rfl 25 rfl item_zero ?_; clear hS; intro w8 b14 hS)
                | (refine st_store (c' := #[.bool d, .slice p1 n1 c1, .slice p2 n2 c2]) hS rfl 25 _ _ rfl rfl rfl (by repeat (first | exact Upd.head | apply Upd.tail)) item_size (by rfl) (by rfl) (one3 rfl rfl rfl) ?_; clear hS; intro w9 hS))
              have hB14 := hS.get .head
              have hB6 := hS.get (.tail .head)
              have hix : ItC [] w9 34 (.bool d) (.slice p1 n1 c1) (.slice p2 n2 c2) (itL N) := ((hx7 [b6] (fun y hy => by simp at hy; subst hy; exact hlt6)).tch hS.frame).mono (by simp)
              have hiy : ItC [] w9 34 (.bool true) (.slice none 0 0) (.slice p N c) (itL N) := ((HIT.out.tch hF7).tch hS.frame).mono (by simp)
              have hsame := fun (w' : World) (hT : Tch [] w9 w') => (same_any 34 _ _ _ _ _ _ _ _ w' (hix.tch hT) (hiy.tch hT)).mono (R' := fun e w'' => e = .returned (.bool true) ∧ Tch [] w9 w'') (fun e w'' h => ⟨by rw [h.1, (eqI_iff _ _).2 rfl], hT.trans h.2⟩)
              have hend : Tch [] w w9 := HF.out.fresh ((hF7.trans hS.frame)) (fun y hy => by simp at hy; subst hy; exact HGE.out)
              clear hix hiy hx7 hS hF7 hT5 hT7
              have HE := Lib.hid hend
              clear hend
              generalize hMM : hsz N + N = M at *
              have hsum : IntKind.i64.wrap (((1 + a : Nat) : Int) + (N : Int)) = (M : Int) := by rw [IntKind.wrap_i64, ← hMM, hsz_great h55]; have := HAK.out; have := HG.out.small; omega
              clear hMM
              refine k_seq (C := fun w' => Tch [] w9 w') (Tch.refl _ _) ?_
              repeat (first | (refine k_skip rfl rfl rfl rfl rfl ?_; try simp only [Act.put, List.setIfInBounds_toArray, List.set_cons_zero, List.set_cons_succ]) | (refine k_num rfl rfl rfl ?_; try simp only [Act.put, List.setIfInBounds_toArray, List.set_cons_zero, List.set_cons_succ]) | (refine k_boolm rfl _ rfl rfl ?_; try simp only [Act.put, List.setIfInBounds_toArray, List.set_cons_zero, List.set_cons_succ]) | (refine k_boola rfl _ rfl rfl ?_; try simp only [Act.put, List.setIfInBounds_toArray, List.set_cons_zero, List.set_cons_succ]) | (refine k_intm rfl _ rfl rfl ?_; try simp only [Act.put, List.setIfInBounds_toArray, List.set_cons_zero, List.set_cons_succ]) | (refine k_inta rfl _ rfl rfl ?_; try simp only [Act.put, List.setIfInBounds_toArray, List.set_cons_zero, List.set_cons_succ]) | (refine k_add (s := 0) rfl _ _ _ _ (by rfl) (by rfl) (by rfl) (by decide) ?_; try simp only [Act.put, List.setIfInBounds_toArray, List.set_cons_zero, List.set_cons_succ]) | (refine k_add (s := (M : Int)) rfl _ _ _ _ (by rfl) (by rfl) (by rfl) (by exact hsum) ?_; try simp only [Act.put, List.setIfInBounds_toArray, List.set_cons_zero, List.set_cons_succ]) | (refine k_ints (t := true) rfl _ _ _ (by rfl) (by rfl) (by rfl) (by first | decide | exact beq_self_eq_true _) ?_; try simp only [Act.put, List.setIfInBounds_toArray, List.set_cons_zero, List.set_cons_succ]) | (refine k_lenSl rfl _ rfl (by rfl) ?_; try simp only [Act.put, List.setIfInBounds_toArray, List.set_cons_zero, List.set_cons_succ]) | (refine k_slice rfl _ rfl rfl ?_; try simp only [Act.put, List.setIfInBounds_toArray, List.set_cons_zero, List.set_cons_succ]) | (refine k_loadS rfl 25 _ rfl rfl (fun w h => h.blk hB14 (by simp)) hty item_size rfl ?_; try simp only [Act.put, List.setIfInBounds_toArray, List.set_cons_zero, List.set_cons_succ]) | (refine k_loadS rfl 25 _ rfl rfl (fun w h => h.blk hB6 (by simp)) hty item_size rfl ?_; try simp only [Act.put, List.setIfInBounds_toArray, List.set_cons_zero, List.set_cons_succ]) | (refine k_callC2 (by rfl) (by rfl) (by rfl) (by rfl) Try.call16 (by exact hsame) ?_; try simp only [Act.put, List.setIfInBounds_toArray, List.set_cons_zero, List.set_cons_succ]) | (refine k_pickT rfl _ _ _ rfl rfl rfl ?_; try simp only [Act.put, List.setIfInBounds_toArray, List.set_cons_zero, List.set_cons_succ]) | (refine k_pickF rfl _ _ _ rfl rfl rfl ?_; try simp only [Act.put, List.setIfInBounds_toArray, List.set_cons_zero, List.set_cons_succ]))
              refine k_end ?_
              rintro w' hT'
              go_wp2
              go_ret
              exact ⟨rfl, HE.out.trans hT'⟩
set_option maxHeartbeats 4000000 in
set_option maxRecDepth 100000 in
theorem list_many (N : Nat) (hN : N ≤ 70000) (h55 : 55 < N) (h7 : 700 < N) (w : World) : Calls Try.prog 7 #[.int .i64 (N : Int), .bool true] w fun e w' => e = .returned (.bool true) ∧ Tch [] w w' := by
  obtain ⟨f0, f1, f2, hty, _⟩ := item_ty
  have hS := St.start w
  have hd0 : ¬ (N : Int) < 0 := by omega
  have hd1 : ¬ (70000 : Int) < (N : Int) := by omega
  have hd55 : (55 : Int) < (N : Int) := by omega
  go_enter Try.func7, Try.ntmps7
  go_wp2_with (first
    | (go_at_call 10; refine (alive_any _).mono ?_; rintro e w1 ⟨rfl, hT1⟩; replace hS := hS.call hT1)
    | (refine st_makeB N hS rfl _ _ rfl (by rfl) (by rfl) (by omega) ?_; clear hS; intro w2 bM hS)
    | (refine st_new (L := [(bM, 5, bc N fun _ => 0)]) hS rfl 25 rfl item_zero ?_; clear hS; intro w3 b6 hS)
    | (refine st_store (c' := #[.bool false, .slice (some ⟨bM, 0, none⟩) N N, .slice none 0 0]) hS rfl 25 _ _ rfl rfl rfl (by repeat (first | exact Upd.head | apply Upd.tail)) item_size (by rfl) (by rfl) (one3 rfl rfl rfl) ?_; clear hS; intro w4 hS))
  have H4 := Lib.hid hS
  clear hS
  go_loopw [7] (fun kv wr => ∃ k : Nat, k ≤ N ∧ kv = .int .i64 (k : Int) ∧ St [] w wr [(b6, 25, #[.bool false, .slice (some ⟨bM, 0, none⟩) N N, .slice none 0 0]), (bM, 5, two00 N k)]) (fun kv _ => N - (intOf kv).toNat)
  case atStart => exact ⟨0, Nat.zero_le _, rfl, by simpa [two00] using H4.out⟩
  case round =>
    obtain ⟨k, hk, rfl, hS⟩ := hrel
    by_cases hlt : k < N
    · have hlt' : (k : Int) < (N : Int) := by omega
      have hcl := (hS.get .head).cell (j := 1) rfl
      have HSET := Lib.hid (two00_set hlt)
      go_wp2_with (refine st_store1 (b := bM) (j := k) hS rfl 5 _ _ rfl (by first | rfl | (rw [Nat.zero_add]; rfl)) rfl u8_size (by repeat (first | exact Upd.head | apply Upd.tail)) (by unfold two00; rw [bc_size]; exact hlt) ?_; clear hS; intro w5 hS)
      go_roundw
      case rel => exact ⟨k + 1, hlt, by go_num, by rw [← HSET.out]; exact hS⟩
      case measure => simp [intOf]; omega
    · obtain rfl : k = N := by omega
      have hnl : ¬ (k : Int) < (k : Int) := by omega
      generalize hkN : k = N at *
      clear hkN
      have hB6 := hS.get .head
      have hge6 := (hS.own .head).resolve_right (by simp)
      have hF := hS.frame
      clear hS
      have hS := (St.start w).callNew hF hB6 hge6
      clear hB6 hF
      go_wp2_with (first
        | (refine st_new (L := [(b6, 25, #[.bool false, .slice (some ⟨bM, 0, none⟩) N N, .slice none 0 0])]) hS rfl 25 rfl item_zero ?_; clear hS; intro w7 b8 hS)
        | (refine st_store (c' := #[.bool true, .slice none 0 0, .slice none 0 0]) hS rfl 25 _ _ rfl rfl rfl (by repeat (first | exact Upd.head | apply Upd.tail)) item_size (by rfl) (by rfl) (one3 rfl rfl rfl) ?_; clear hS; intro w8 hS))
      have H8 := Lib.hid hS
      clear hS
      go_loopw [9] (fun kv wr => ∃ i : Nat, i ≤ N ∧ i ≤ 700 ∧ kv = .int .i64 (i : Int) ∧ LI w b6 b8 N bM i wr) (fun kv _ => 700 - (intOf kv).toNat)
      case atStart => exact ⟨0, Nat.zero_le _, by omega, rfl, li_start H8.out⟩
      case round =>
        obtain ⟨i, hiN, hi7, rfl, p, c, hS, hR, hown⟩ := hrel
        have HR := Lib.hid hR
        have HOWN := Lib.hid hown
        have hne := hS.apart2
        have hge8 := (hS.own .head).resolve_right (by simp)
        have hge6 := (hS.own (.tail .head)).resolve_right (by simp)
        clear hR hown
        by_cases hmore : i < N ∧ i < 700
        · have hlt : (i : Int) < (N : Int) := by omega
          have hlt7 : (i : Int) < 700 := by omega
          have hcl := (hS.get .head).cell (j := 2) rfl
          go_wp2_with (first
            | (at_builtin
               go_must (
                 refine st_appendI (w0 := w) (w := wr.alloc (.cells #[.int .u8 7] 5)) (X := [b8, b6]) (k := 1) (v := .slice p i c) (y0 := .bool false) (yb := .slice (some ⟨wr.heap.size, 0, none⟩) 1 1) (yl := .slice none 0 0) (ts := List.replicate i (.str [7])) (t := .str [7]) (by rfl) _ _ (by rfl) (by rfl) (by first | rfl | (simp only [World.alloc, Array.size_push]; rfl)) (HR.out.call ((Tch.refl _ _).alloc _)) (fun Z hZ => sev_itc (fun y hy => li_low hS HR.out hZ y hy)) (one3 rfl rfl rfl) (hS.frame.alloc _) (by rw [List.length_replicate]; omega) ?_
                 intro p4 c4 w10 hR10 hT10 hsz hkeep hown10
                 rw [List.length_replicate] at hR10 hown10
                 have hS10 := li_next (p := p) (c := c) hS hT10 hkeep HOWN.out
                 have HO11 := Lib.hid (li_own hS HOWN.out hown10)
                 have HR10 := Lib.hid hR10
                 clear hS hcl hR10 hT10 hsz hkeep hown10
                 have hS := hS10
                 clear hS10))
            | (refine arm_store1 (b := b8) (j := 2) (v := .slice p4 (i + 1) c4) rfl 23 _ _ rfl rfl rfl rfl sli_size (hS.get .head) (by show 2 < 3; decide) ?_
               intro w11 hB11 hO11
               have hS11 := hS.upd .head hO11 hB11
               have HR11 := Lib.hid (HR10.out.only hO11 (by simp) (fun e => (HO11.out _ e).1 rfl))
               clear hS hB11 hO11
               have hS := hS11
               clear hS11))
          go_roundw
          case rel => exact ⟨i + 1, by omega, by omega, by go_num, p4, c4, hS, by rw [List.replicate_succ']; exact HR11.out, HO11.out⟩
          case measure => simp [intOf]; omega
        · have hi : i = 700 := by omega
          have hnm : (700 : Int) < (N : Int) := by omega
          have hz : ¬ (i : Int) < 700 := by omega
          have hz2 : (i : Int) < (N : Int) := by omega
          have hit0 := (HR.out.itc (vb := .slice none 0 0) (Y := [b6]) (by rw [List.length_replicate]; omega) (fun y hy => .inl (by simp at hy; subst hy; exact ⟨by simp, fun e => (HOWN.out _ e).2 rfl⟩))).up (show 2 ≤ 34 by omega)
          have HIT0 := Lib.hid hit0
          have HI := Lib.hid hi
          clear hit0 hi
          go_upto_region 18 with (first
            | (refine st_load (b := b8) hS rfl 25 _ rfl rfl (by repeat (first | exact At.head | apply At.tail)) hty rfl item_size (by rfl) ?_)
            | (refine arm_store (w' := wr.setRow b6 #[.bool true, .slice none 0 0, .slice p i c]) (b := b6) (c := #[.bool true, .slice none 0 0, .slice p i c]) rfl 25 _ _ rfl rfl rfl ((hS.get (.tail .head)).store item_size (by rfl) (by rfl) (one3 rfl rfl rfl)) ?_))
          have e700 : (700 : Int) = (i : Int) := by have := HI.out; omega
          rw [e700]
          have hN' : i ≤ 70000 := by omega
          have h55' : 55 < i := by have := HI.out; omega
          have hS9 := hS.upd (.tail .head) (Only.setRow wr b6 #[.bool true, .slice none 0 0, .slice p i c]) ((hS.get (.tail .head)).row _)
          have hB9 := hS9.get (.tail .head)
          have hF9 := hS9.frame
          have HIT : Hid (ItC [b6] (wr.setRow b6 #[.bool true, .slice none 0 0, .slice p i c]) 34 (.bool true) (.slice none 0 0) (.slice p i c) (itL i)) := Lib.hid (HIT0.out.tch ((Tch.refl _ _).only (Only.setRow _ _ _) (.inr (by simp))))
          have HG : Hid (Good i (itL i)) := Lib.hid ⟨len_itL i, dep_itL i, hN'⟩
          clear hS hS9 HIT0 HR HOWN e700 hN h55 hd55 hnm hz hz2 HI
          have hS := (St.start w).callNew hF9 hB9 hge6
          clear hB9 hF9
          generalize wr.setRow b6 #[.bool true, .slice none 0 0, .slice p i c] = w90 at *
          obtain ⟨N, rfl⟩ : ∃ Nq : Nat, Nq = i := ⟨i, rfl⟩
          have hN := hN'
          have h55 := h55'
          have hd55 : (55 : Int) < (N : Int) := by omega
          have HGE := Lib.hid ((hS.own .head).resolve_right (by simp))
          have HF := Lib.hid hS.frame
          have hB6 := hS.get .head
          clear hS
          have hS := St.one hB6
          have HP := Lib.hid (packs HG.out (enc_lt HIT.out HG.out.le) (HIT.out.mono (by simp)))
          clear hB6
          go_wp2_with (first
            | (refine st_load (b := b6) hS rfl 25 _ rfl rfl (by repeat (first | exact At.head | apply At.tail)) hty rfl item_size (by rfl) ?_)
            | (go_at_call 12; (with_reducible refine HP.out.mono ?_); clear HP; rintro e w5 ⟨bp, rfl, hT5, hr5⟩; have HR5 := Lib.hid hr5; clear hr5; replace hS := hS.call hT5))
          have H5 := Lib.hid hS
          clear hS
          go_loopw [12, 13] (fun hv kv wr => ∃ a k : Nat, hv = .int .i64 ((1 + a : Nat) : Int) ∧ kv = .int .i64 (k : Int) ∧ a + lsz k = lsz N ∧ k ≤ 70000 ∧ a ≤ 8 ∧ w5 = wr) (fun _ kv _ => (intOf kv).toNat)
          case atStart => exact ⟨0, N, rfl, rfl, by omega, HG.out.small, by omega, rfl⟩
          case round =>
            obtain ⟨a, k, rfl, rfl, hak, hk7, ha8, rfl⟩ := hrel
            by_cases hk0 : 0 < k
            · have hk0' : (0 : Int) < (k : Int) := by omega
              have hstep := lsz_step hk0
              have hl4 := lsz_le (n := N) (by have := HG.out.small; omega)
              have HST := Lib.hid (And.intro hstep (And.intro hl4 hak))
              clear hstep hl4 hak
              go_wp2
              go_roundw
              case rel => exact ⟨a + 1, k / 256, by go_num, by go_num, by have := HST.out; omega, by omega, by have := HST.out; omega, by first | trivial | rfl⟩
              case measure => simp [intOf]; omega
            · obtain rfl : k = 0 := by omega
              rw [lsz_zero] at hak
              have HAK := Lib.hid hak
              have hS := H5.out
              clear hak
              go_upto_region 26 with (first
                | (go_at_call 15; (with_reducible refine (reads HG.out HR5.out).mono ?_)
                   rintro e w7 ⟨d, p1, n1, c1, p2, n2, c2, rfl, hT7, hx7⟩
                   have hS7 := hS.call hT7
                   have hlt6 := (hS.get .head).lt
                   have hF7 := hS7.frame
                   clear hS
                   have hS := St.one (hS7.get .head)
                   clear hS7)
                | (refine st_new (L := [(b6, 25, #[.bool true, .slice none 0 0, .slice p N c])]) hS rfl 25 rfl item_zero ?_; clear hS; intro w8 b14 hS)
                | (refine st_store (c' := #[.bool d, .slice p1 n1 c1, .slice p2 n2 c2]) hS rfl 25 _ _ rfl rfl rfl (by repeat (first | exact Upd.head | apply Upd.tail)) item_size (by rfl) (by rfl) (one3 rfl rfl rfl) ?_; clear hS; intro w9 hS))
              have hB14 := hS.get .head
              have hB6 := hS.get (.tail .head)
              have hix : ItC [] w9 34 (.bool d) (.slice p1 n1 c1) (.slice p2 n2 c2) (itL N) := ((hx7 [b6] (fun y hy => by simp at hy; subst hy; exact hlt6)).tch hS.frame).mono (by simp)
              have hiy : ItC [] w9 34 (.bool true) (.slice none 0 0) (.slice p N c) (itL N) := ((HIT.out.tch hF7).tch hS.frame).mono (by simp)
              have hsame := fun (w' : World) (hT : Tch [] w9 w') => (same_any 34 _ _ _ _ _ _ _ _ w' (hix.tch hT) (hiy.tch hT)).mono (R' := fun e w'' => e = .returned (.bool true) ∧ Tch [] w9 w'') (fun e w'' h => ⟨by rw [h.1, (eqI_iff _ _).2 rfl], hT.trans h.2⟩)
              have hend : Tch [] w w9 := HF.out.fresh ((hF7.trans hS.frame)) (fun y hy => by simp at hy; subst hy; exact HGE.out)
              clear hix hiy hx7 hS hF7 hT5 hT7
              have HE := Lib.hid hend
              clear hend
              generalize hMM : hsz N + N = M at *
              have hsum : IntKind.i64.wrap (((1 + a : Nat) : Int) + (N : Int)) = (M : Int) := by rw [IntKind.wrap_i64, ← hMM, hsz_great h55]; have := HAK.out; have := HG.out.small; omega
              clear hMM
              refine k_seq (C := fun w' => Tch [] w9 w') (Tch.refl _ _) ?_
              repeat (first | (refine k_skip rfl rfl rfl rfl rfl ?_; try simp only [Act.put, List.setIfInBounds_toArray, List.set_cons_zero, List.set_cons_succ]) | (refine k_num rfl rfl rfl ?_; try simp only [Act.put, List.setIfInBounds_toArray, List.set_cons_zero, List.set_cons_succ]) | (refine k_boolm rfl _ rfl rfl ?_; try simp only [Act.put, List.setIfInBounds_toArray, List.set_cons_zero, List.set_cons_succ]) | (refine k_boola rfl _ rfl rfl ?_; try simp only [Act.put, List.setIfInBounds_toArray, List.set_cons_zero, List.set_cons_succ]) | (refine k_intm rfl _ rfl rfl ?_; try simp only [Act.put, List.setIfInBounds_toArray, List.set_cons_zero, List.set_cons_succ]) | (refine k_inta rfl _ rfl rfl ?_; try simp only [Act.put, List.setIfInBounds_toArray, List.set_cons_zero, List.set_cons_succ]) | (refine k_add (s := 0) rfl _ _ _ _ (by rfl) (by rfl) (by rfl) (by decide) ?_; try simp only [Act.put, List.setIfInBounds_toArray, List.set_cons_zero, List.set_cons_succ]) | (refine k_add (s := (M : Int)) rfl _ _ _ _ (by rfl) (by rfl) (by rfl) (by exact hsum) ?_; try simp only [Act.put, List.setIfInBounds_toArray, List.set_cons_zero, List.set_cons_succ]) | (refine k_ints (t := true) rfl _ _ _ (by rfl) (by rfl) (by rfl) (by first | decide | exact beq_self_eq_true _) ?_; try simp only [Act.put, List.setIfInBounds_toArray, List.set_cons_zero, List.set_cons_succ]) | (refine k_lenSl rfl _ rfl (by rfl) ?_; try simp only [Act.put, List.setIfInBounds_toArray, List.set_cons_zero, List.set_cons_succ]) | (refine k_slice rfl _ rfl rfl ?_; try simp only [Act.put, List.setIfInBounds_toArray, List.set_cons_zero, List.set_cons_succ]) | (refine k_loadS rfl 25 _ rfl rfl (fun w h => h.blk hB14 (by simp)) hty item_size rfl ?_; try simp only [Act.put, List.setIfInBounds_toArray, List.set_cons_zero, List.set_cons_succ]) | (refine k_loadS rfl 25 _ rfl rfl (fun w h => h.blk hB6 (by simp)) hty item_size rfl ?_; try simp only [Act.put, List.setIfInBounds_toArray, List.set_cons_zero, List.set_cons_succ]) | (refine k_callC2 (by rfl) (by rfl) (by rfl) (by rfl) Try.call16 (by exact hsame) ?_; try simp only [Act.put, List.setIfInBounds_toArray, List.set_cons_zero, List.set_cons_succ]) | (refine k_pickT rfl _ _ _ rfl rfl rfl ?_; try simp only [Act.put, List.setIfInBounds_toArray, List.set_cons_zero, List.set_cons_succ]) | (refine k_pickF rfl _ _ _ rfl rfl rfl ?_; try simp only [Act.put, List.setIfInBounds_toArray, List.set_cons_zero, List.set_cons_succ]))
              refine k_end ?_
              rintro w' hT'
              go_wp2
              go_ret
              exact ⟨rfl, HE.out.trans hT'⟩
end Go.Proofs.Ytnkfkahbkjdnpaa.Heads
