/- The law RlpHeads: a byte string. -/
import Derived.Test.YtnkfkahbkjdnpaaLHeads
namespace Go.Proofs.Ytnkfkahbkjdnpaa.Heads
open Go.RowKit

section
variable {o : Oper} {a : Act} {ops : Array Oper} {rest : List Oper} {C : World → Prop} {Q : Act → Prop}
theorem k_lenSl {p : Option Addr} {n c : Nat} (hw : Region.wanted o (yielded ops a.tmps) = true) (x : Operand) (ho : o.op = .call { callee := .builtin .len, args := #[x], argTypes := #[22] }) (hx : a.eval x = .slice p n c)
    (h : KQ ops C Q rest (a.put o.dst (.int .i64 (n : Int)))) : KQ ops C Q (o :: rest) a :=
  k_pure hw (fun w => by unfold execOp; simp [ho, resolve, invoke, builtin, hx, Builtin.len_, run_underlying bytes_ty, goInt]) h
theorem k_slice {p : Option Addr} {l c : Nat} (hw : Region.wanted o (yielded ops a.tmps) = true) (xo : Operand) (ho : o.op = .move xo) (hx : a.eval xo = .slice p l c)
    (h : KQ ops C Q rest (a.put o.dst (.slice p l c))) : KQ ops C Q (o :: rest) a := k_val hw xo (.inl ho) hx h
end
set_option maxHeartbeats 4000000 in
set_option maxRecDepth 100000 in
theorem bytes_small (N : Nat) (hN : N ≤ 70000) (h55 : N ≤ 55) (w : World) : Calls Try.prog 7 #[.int .i64 (N : Int), .bool false] w fun e w' => e = .returned (.bool true) ∧ Tch [] w w' := by
  obtain ⟨f0, f1, f2, hty, _⟩ := item_ty
  have hS := St.start w
  have hd0 : ¬ (N : Int) < 0 := by omega
  have hd1 : ¬ (70000 : Int) < (N : Int) := by omega
  have hd55 : ¬ (55 : Int) < (N : Int) := by omega
  go_enter Try.func7, Try.ntmps7
  go_wp2_with (first
    | (go_at_call 10; refine (alive_any _).mono ?_; rintro e w1 ⟨rfl, hT1⟩; replace hS := hS.call hT1)
    | (refine st_makeB N hS rfl _ _ rfl (by rfl) (by rfl) (by omega) ?_; clear hS; intro w2 bM hS)
    | (refine st_new (L := [(bM, 5, bc N fun _ => 0)]) hS rfl 25 rfl item_zero ?_; clear hS; intro w3 b6 hS)
    | (refine st_store (c' := #[.bool false, .slice (some ⟨bM, 0, none⟩) N N, .slice none 0 0]) hS rfl 25 _ _ rfl rfl rfl (by repeat (first | exact Upd.head | apply Upd.tail)) item_size (by rfl) (by rfl) (one3 rfl rfl rfl) ?_; clear hS; intro w4 hS))
  have H4 := Lib.hid hS
  clear hS
  go_loopw [7] (fun kv wr => ∃ k : Nat, k ≤ N ∧ kv = .int .i64 (k : Int) ∧ St [] w wr [(b6, 25, #[.bool false, .slice (some ⟨bM, 0, none⟩) N N, .slice none 0 0]), (bM, 5, two00 N k)]) (fun kv _ => N - (intOf kv).toNat)
  case atStart => exact ⟨0, Nat.zero_le _, rfl, by simpa [two00] using H4.out⟩
  case round =>
    obtain ⟨k, hk, rfl, hS⟩ := hrel
    by_cases hlt : k < N
    · have hlt' : (k : Int) < (N : Int) := by omega
      have hcl := (hS.get .head).cell (j := 1) rfl
      have HSET := Lib.hid (two00_set hlt)
      go_wp2_with (refine st_store1 (b := bM) (j := k) hS rfl 5 _ _ rfl (by first | rfl | (rw [Nat.zero_add]; rfl)) rfl u8_size (by repeat (first | exact Upd.head | apply Upd.tail)) (by unfold two00; rw [bc_size]; exact hlt) ?_; clear hS; intro w5 hS)
      go_roundw
      case rel => exact ⟨k + 1, hlt, by go_num, by rw [← HSET.out]; exact hS⟩
      case measure => simp [intOf]; omega
    · obtain rfl : k = N := by omega
      have hnl : ¬ (k : Int) < (k : Int) := by omega
      generalize hkN : k = N at *
      clear hkN
      have hne := hS.apart2
      have HIT : Hid (ItC [b6] wr 34 (.bool false) (.slice (some ⟨bM, 0, none⟩) N N) (.slice none 0 0) (itB N)) := Lib.hid (itB_itc (hS.get (.tail .head)) (by simp; exact fun e => hne e.symm) (by omega))
      have HG : Hid (Good N (itB N)) := Lib.hid ⟨len_itB N, dep_itB N, hN⟩
      have HGE := Lib.hid ((hS.own .head).resolve_right (by simp))
      have HF := Lib.hid hS.frame
      have hB6 := hS.get .head
      clear hS
      have hS := St.one hB6
      have HP := Lib.hid (packs HG.out (enc_lt HIT.out HG.out.le) (HIT.out.mono (by simp)))
      clear hB6
      go_upto_region 26 with (first
        | (refine st_load (b := b6) hS rfl 25 _ rfl rfl (by repeat (first | exact At.head | apply At.tail)) hty rfl item_size (by rfl) ?_)
        | (go_at_call 12; (with_reducible refine HP.out.mono ?_); clear HP; rintro e w5 ⟨bp, rfl, hT5, hr5⟩; have HR5 := Lib.hid hr5; clear hr5; replace hS := hS.call hT5)
        | (go_at_call 15; (with_reducible refine (reads HG.out HR5.out).mono ?_)
           rintro e w7 ⟨d, p1, n1, c1, p2, n2, c2, rfl, hT7, hx7⟩
           have hS7 := hS.call hT7
           have hlt6 := (hS.get .head).lt
           have hF7 := hS7.frame
           clear hS
           have hS := St.one (hS7.get .head)
           clear hS7)
        | (refine st_new (L := [(b6, 25, #[.bool false, .slice (some ⟨bM, 0, none⟩) N N, .slice none 0 0])]) hS rfl 25 rfl item_zero ?_; clear hS; intro w8 b14 hS)
        | (refine st_store (c' := #[.bool d, .slice p1 n1 c1, .slice p2 n2 c2]) hS rfl 25 _ _ rfl rfl rfl (by repeat (first | exact Upd.head | apply Upd.tail)) item_size (by rfl) (by rfl) (one3 rfl rfl rfl) ?_; clear hS; intro w9 hS))
      have hB14 := hS.get .head
      have hB6 := hS.get (.tail .head)
      have hix : ItC [] w9 34 (.bool d) (.slice p1 n1 c1) (.slice p2 n2 c2) (itB N) := ((hx7 [b6] (fun y hy => by simp at hy; subst hy; exact hlt6)).tch hS.frame).mono (by simp)
      have hiy : ItC [] w9 34 (.bool false) (.slice (some ⟨bM, 0, none⟩) N N) (.slice none 0 0) (itB N) := ((HIT.out.tch hF7).tch hS.frame).mono (by simp)
      have hsame := fun (w' : World) (hT : Tch [] w9 w') => (same_any 34 _ _ _ _ _ _ _ _ w' (hix.tch hT) (hiy.tch hT)).mono (R' := fun e w'' => e = .returned (.bool true) ∧ Tch [] w9 w'') (fun e w'' h => ⟨by rw [h.1, (eqI_iff _ _).2 rfl], hT.trans h.2⟩)
      have hend : Tch [] w w9 := HF.out.fresh ((hF7.trans hS.frame)) (fun y hy => by simp at hy; subst hy; exact HGE.out)
      clear hix hiy hx7 hS hF7 hT5 hT7
      have HE := Lib.hid hend
      clear hend
      generalize hMM : hsz N + N = M at *
      have hsum : IntKind.i64.wrap (1 + (N : Int)) = (M : Int) := by rw [IntKind.wrap_i64, ← hMM, hsz_small h55]; omega
      clear hMM
      refine k_seq (C := fun w' => Tch [] w9 w') (Tch.refl _ _) ?_
      repeat (first | (refine k_skip rfl rfl rfl rfl rfl ?_; try simp only [Act.put, List.setIfInBounds_toArray, List.set_cons_zero, List.set_cons_succ]) | (refine k_num rfl rfl rfl ?_; try simp only [Act.put, List.setIfInBounds_toArray, List.set_cons_zero, List.set_cons_succ]) | (refine k_boolm rfl _ rfl rfl ?_; try simp only [Act.put, List.setIfInBounds_toArray, List.set_cons_zero, List.set_cons_succ]) | (refine k_boola rfl _ rfl rfl ?_; try simp only [Act.put, List.setIfInBounds_toArray, List.set_cons_zero, List.set_cons_succ]) | (refine k_intm rfl _ rfl rfl ?_; try simp only [Act.put, List.setIfInBounds_toArray, List.set_cons_zero, List.set_cons_succ]) | (refine k_inta rfl _ rfl rfl ?_; try simp only [Act.put, List.setIfInBounds_toArray, List.set_cons_zero, List.set_cons_succ]) | (refine k_add (s := 0) rfl _ _ _ _ (by rfl) (by rfl) (by rfl) (by decide) ?_; try simp only [Act.put, List.setIfInBounds_toArray, List.set_cons_zero, List.set_cons_succ]) | (refine k_add (s := (M : Int)) rfl _ _ _ _ (by rfl) (by rfl) (by rfl) (by exact hsum) ?_; try simp only [Act.put, List.setIfInBounds_toArray, List.set_cons_zero, List.set_cons_succ]) | (refine k_ints (t := true) rfl _ _ _ (by rfl) (by rfl) (by rfl) (by first | decide | exact beq_self_eq_true _) ?_; try simp only [Act.put, List.setIfInBounds_toArray, List.set_cons_zero, List.set_cons_succ]) | (refine k_lenSl rfl _ rfl (by rfl) ?_; try simp only [Act.put, List.setIfInBounds_toArray, List.set_cons_zero, List.set_cons_succ]) | (refine k_slice rfl _ rfl rfl ?_; try simp only [Act.put, List.setIfInBounds_toArray, List.set_cons_zero, List.set_cons_succ]) | (refine k_loadS rfl 25 _ rfl rfl (fun w h => h.blk hB14 (by simp)) hty item_size rfl ?_; try simp only [Act.put, List.setIfInBounds_toArray, List.set_cons_zero, List.set_cons_succ]) | (refine k_loadS rfl 25 _ rfl rfl (fun w h => h.blk hB6 (by simp)) hty item_size rfl ?_; try simp only [Act.put, List.setIfInBounds_toArray, List.set_cons_zero, List.set_cons_succ]) | (refine k_callC2 (by rfl) (by rfl) (by rfl) (by rfl) Try.call16 (by exact hsame) ?_; try simp only [Act.put, List.setIfInBounds_toArray, List.set_cons_zero, List.set_cons_succ]) | (refine k_pickT rfl _ _ _ rfl rfl rfl ?_; try simp only [Act.put, List.setIfInBounds_toArray, List.set_cons_zero, List.set_cons_succ]) | (refine k_pickF rfl _ _ _ rfl rfl rfl ?_; try simp only [Act.put, List.setIfInBounds_toArray, List.set_cons_zero, List.set_cons_succ]))
      refine k_end ?_
      rintro w' hT'
      go_wp2
      go_ret
      exact ⟨rfl, HE.out.trans hT'⟩
set_option maxHeartbeats 4000000 in
set_option maxRecDepth 100000 in
theorem bytes_great (N : Nat) (hN : N ≤ 70000) (h55 : 55 < N) (w : World) : Calls Try.prog 7 #[.int .i64 (N : Int), .bool false] w fun e w' => e = .returned (.bool true) ∧ Tch [] w w' := by
  obtain ⟨f0, f1, f2, hty, _⟩ := item_ty
  have hS := St.start w
  have hd0 : ¬ (N : Int) < 0 := by omega
  have hd1 : ¬ (70000 : Int) < (N : Int) := by omega
  have hd55 : (55 : Int) < (N : Int) := by omega
  go_enter Try.func7, Try.ntmps7
  go_wp2_with (first
    | (go_at_call 10; refine (alive_any _).mono ?_; rintro e w1 ⟨rfl, hT1⟩; replace hS := hS.call hT1)
    | (refine st_makeB N hS rfl _ _ rfl (by rfl) (by rfl) (by omega) ?_; clear hS; intro w2 bM hS)
    | (refine st_new (L := [(bM, 5, bc N fun _ => 0)]) hS rfl 25 rfl item_zero ?_; clear hS; intro w3 b6 hS)
    | (refine st_store (c' := #[.bool false, .slice (some ⟨bM, 0, none⟩) N N, .slice none 0 0]) hS rfl 25 _ _ rfl rfl rfl (by repeat (first | exact Upd.head | apply Upd.tail)) item_size (by rfl) (by rfl) (one3 rfl rfl rfl) ?_; clear hS; intro w4 hS))
  have H4 := Lib.hid hS
  clear hS
  go_loopw [7] (fun kv wr => ∃ k : Nat, k ≤ N ∧ kv = .int .i64 (k : Int) ∧ St [] w wr [(b6, 25, #[.bool false, .slice (some ⟨bM, 0, none⟩) N N, .slice none 0 0]), (bM, 5, two00 N k)]) (fun kv _ => N - (intOf kv).toNat)
  case atStart => exact ⟨0, Nat.zero_le _, rfl, by simpa [two00] using H4.out⟩
  case round =>
    obtain ⟨k, hk, rfl, hS⟩ := hrel
    by_cases hlt : k < N
    · have hlt' : (k : Int) < (N : Int) := by omega
      have hcl := (hS.get .head).cell (j := 1) rfl
      have HSET := Lib.hid (two00_set hlt)
      go_wp2_with (refine st_store1 (b := bM) (j := k) hS rfl 5 _ _ rfl (by first | rfl | (rw [Nat.zero_add]; rfl)) rfl u8_size (by repeat (first | exact Upd.head | apply Upd.tail)) (by unfold two00; rw [bc_size]; exact hlt) ?_; clear hS; intro w5 hS)
      go_roundw
      case rel => exact ⟨k + 1, hlt, by go_num, by rw [← HSET.out]; exact hS⟩
      case measure => simp [intOf]; omega
    · obtain rfl : k = N := by omega
      have hnl : ¬ (k : Int) < (k : Int) := by omega
      generalize hkN : k = N at *
      clear hkN
      have hne := hS.apart2
      have HIT : Hid (ItC [b6] wr 34 (.bool false) (.slice (some ⟨bM, 0, none⟩) N N) (.slice none 0 0) (itB N)) := Lib.hid (itB_itc (hS.get (.tail .head)) (by simp; exact fun e => hne e.symm) (by omega))
      have HG : Hid (Good N (itB N)) := Lib.hid ⟨len_itB N, dep_itB N, hN⟩
      have HGE := Lib.hid ((hS.own .head).resolve_right (by simp))
      have HF := Lib.hid hS.frame
      have hB6 := hS.get .head
      clear hS
      have hS := St.one hB6
      have HP := Lib.hid (packs HG.out (enc_lt HIT.out HG.out.le) (HIT.out.mono (by simp)))
      clear hB6
      go_wp2_with (first
        | (refine st_load (b := b6) hS rfl 25 _ rfl rfl (by repeat (first | exact At.head | apply At.tail)) hty rfl item_size (by rfl) ?_)
        | (go_at_call 12; (with_reducible refine HP.out.mono ?_); clear HP; rintro e w5 ⟨bp, rfl, hT5, hr5⟩; have HR5 := Lib.hid hr5; clear hr5; replace hS := hS.call hT5))
      have H5 := Lib.hid hS
      clear hS
      go_loopw [12, 13] (fun hv kv wr => ∃ a k : Nat, hv = .int .i64 ((1 + a : Nat) : Int) ∧ kv = .int .i64 (k : Int) ∧ a + lsz k = lsz N ∧ k ≤ 70000 ∧ a ≤ 8 ∧ w5 = wr) (fun _ kv _ => (intOf kv).toNat)
      case atStart => exact ⟨0, N, rfl, rfl, by omega, HG.out.small, by omega, rfl⟩
      case round =>
        obtain ⟨a, k, rfl, rfl, hak, hk7, ha8, rfl⟩ := hrel
        by_cases hk0 : 0 < k
        · have hk0' : (0 : Int) < (k : Int) := by omega
          have hstep := lsz_step hk0
          have hl4 := lsz_le (n := N) (by have := HG.out.small; omega)
          have HST := Lib.hid (And.intro hstep (And.intro hl4 hak))
          clear hstep hl4 hak
          go_wp2
          go_roundw
          case rel => exact ⟨a + 1, k / 256, by go_num, by go_num, by have := HST.out; omega, by omega, by have := HST.out; omega, by first | trivial | rfl⟩
          case measure => simp [intOf]; omega
        · obtain rfl : k = 0 := by omega
          rw [lsz_zero] at hak
          have HAK := Lib.hid hak
          have hS := H5.out
          clear hak
          go_upto_region 26 with (first
            | (go_at_call 15; (with_reducible refine (reads HG.out HR5.out).mono ?_)
               rintro e w7 ⟨d, p1, n1, c1, p2, n2, c2, rfl, hT7, hx7⟩
               have hS7 := hS.call hT7
               have hlt6 := (hS.get .head).lt
               have hF7 := hS7.frame
               clear hS
               have hS := St.one (hS7.get .head)
               clear hS7)
            | (refine st_new (L := [(b6, 25, #[.bool false, .slice (some ⟨bM, 0, none⟩) N N, .slice none 0 0])]) hS rfl 25 rfl item_zero ?_; clear hS; intro w8 b14 hS)
            | (refine st_store (c' := #[.bool d, .slice p1 n1 c1, .slice p2 n2 c2]) hS rfl 25 _ _ rfl rfl rfl (by repeat (first | exact Upd.head | apply Upd.tail)) item_size (by rfl) (by rfl) (one3 rfl rfl rfl) ?_; clear hS; intro w9 hS))
          have hB14 := hS.get .head
          have hB6 := hS.get (.tail .head)
          have hix : ItC [] w9 34 (.bool d) (.slice p1 n1 c1) (.slice p2 n2 c2) (itB N) := ((hx7 [b6] (fun y hy => by simp at hy; subst hy; exact hlt6)).tch hS.frame).mono (by simp)
          have hiy : ItC [] w9 34 (.bool false) (.slice (some ⟨bM, 0, none⟩) N N) (.slice none 0 0) (itB N) := ((HIT.out.tch hF7).tch hS.frame).mono (by simp)
          have hsame := fun (w' : World) (hT : Tch [] w9 w') => (same_any 34 _ _ _ _ _ _ _ _ w' (hix.tch hT) (hiy.tch hT)).mono (R' := fun e w'' => e = .returned (.bool true) ∧ Tch [] w9 w'') (fun e w'' h => ⟨by rw [h.1, (eqI_iff _ _).2 rfl], hT.trans h.2⟩)
          have hend : Tch [] w w9 := HF.out.fresh ((hF7.trans hS.frame)) (fun y hy => by simp at hy; subst hy; exact HGE.out)
          clear hix hiy hx7 hS hF7 hT5 hT7
          have HE := Lib.hid hend
          clear hend
          generalize hMM : hsz N + N = M at *
          have hsum : IntKind.i64.wrap (((1 + a : Nat) : Int) + (N : Int)) = (M : Int) := by rw [IntKind.wrap_i64, ← hMM, hsz_great h55]; have := HAK.out; have := HG.out.small; omega
          clear hMM
          refine k_seq (C := fun w' => Tch [] w9 w') (Tch.refl _ _) ?_
          repeat (first | (refine k_skip rfl rfl rfl rfl rfl ?_; try simp only [Act.put, List.setIfInBounds_toArray, List.set_cons_zero, List.set_cons_succ]) | (refine k_num rfl rfl rfl ?_; try simp only [Act.put, List.setIfInBounds_toArray, List.set_cons_zero, List.set_cons_succ]) | (refine k_boolm rfl _ rfl rfl ?_; try simp only [Act.put, List.setIfInBounds_toArray, List.set_cons_zero, List.set_cons_succ]) | (refine k_boola rfl _ rfl rfl ?_; try simp only [Act.put, List.setIfInBounds_toArray, List.set_cons_zero, List.set_cons_succ]) | (refine k_intm rfl _ rfl rfl ?_; try simp only [Act.put, List.setIfInBounds_toArray, List.set_cons_zero, List.set_cons_succ]) | (refine k_inta rfl _ rfl rfl ?_; try simp only [Act.put, List.setIfInBounds_toArray, List.set_cons_zero, List.set_cons_succ]) | (refine k_add (s := 0) rfl _ _ _ _ (by rfl) (by rfl) (by rfl) (by decide) ?_; try simp only [Act.put, List.setIfInBounds_toArray, List.set_cons_zero, List.set_cons_succ]) | (refine k_add (s := (M : Int)) rfl _ _ _ _ (by rfl) (by rfl) (by rfl) (by exact hsum) ?_; try simp only [Act.put, List.setIfInBounds_toArray, List.set_cons_zero, List.set_cons_succ]) | (refine k_ints (t := true) rfl _ _ _ (by rfl) (by rfl) (by rfl) (by first | decide | exact beq_self_eq_true _) ?_; try simp only [Act.put, List.setIfInBounds_toArray, List.set_cons_zero, List.set_cons_succ]) | (refine k_lenSl rfl _ rfl (by rfl) ?_; try simp only [Act.put, List.setIfInBounds_toArray, List.set_cons_zero, List.set_cons_succ]) | (refine k_slice rfl _ rfl rfl ?_; try simp only [Act.put, List.setIfInBounds_toArray, List.set_cons_zero, List.set_cons_succ]) | (refine k_loadS rfl 25 _ rfl rfl (fun w h => h.blk hB14 (by simp)) hty item_size rfl ?_; try simp only [Act.put, List.setIfInBounds_toArray, List.set_cons_zero, List.set_cons_succ]) | (refine k_loadS rfl 25 _ rfl rfl (fun w h => h.blk hB6 (by simp)) hty item_size rfl ?_; try simp only [Act.put, List.setIfInBounds_toArray, List.set_cons_zero, List.set_cons_succ]) | (refine k_callC2 (by rfl) (by rfl) (by rfl) (by rfl) Try.call16 (by exact hsame) ?_; try simp only [Act.put, List.setIfInBounds_toArray, List.set_cons_zero, List.set_cons_succ]) | (refine k_pickT rfl _ _ _ rfl rfl rfl ?_; try simp only [Act.put, List.setIfInBounds_toArray, List.set_cons_zero, List.set_cons_succ]) | (refine k_pickF rfl _ _ _ rfl rfl rfl ?_; try simp only [Act.put, List.setIfInBounds_toArray, List.set_cons_zero, List.set_cons_succ]))
          refine k_end ?_
          rintro w' hT'
          go_wp2
          go_ret
          exact ⟨rfl, HE.out.trans hT'⟩
end Go.Proofs.Ytnkfkahbkjdnpaa.Heads
