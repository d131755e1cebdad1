/- path.Read. -/
import Derived.Test.YtgdojomaknbheaaP10
namespace Go.Proofs.Ytgdojomaknbheaa
open Go.RowKit

/-- The path and the kind that bytes are the packing of, or none. -/
def readL : List Nat → Option (List Nat × Bool)
  | [] => none
  | x :: r => if 3 < x / 16 ∨ (x / 16 % 2 = 0 ∧ x % 16 ≠ 0) then none else some ((if x / 16 % 2 = 1 then [x % 16] else []) ++ nibs r, decide (2 ≤ x / 16))
theorem readL_cons (x : Nat) (r : List Nat) : readL (x :: r) = if 3 < x / 16 ∨ (x / 16 % 2 = 0 ∧ x % 16 ≠ 0) then none else some ((if x / 16 % 2 = 1 then [x % 16] else []) ++ nibs r, decide (2 ≤ x / 16)) := rfl
def RdPost (w : World) (r : Option (List Nat × Bool)) (e : Ending) (w' : World) : Prop :=
  Tch [] w w' ∧ ∃ v, e = .returned (.tuple #[v, .bool ((r.map (·.2)).getD false), .bool r.isSome]) ∧ RdA [] w' v ((r.map (·.1)).getD [])
theorem rdpost_no {w w' : World} {r : Option (List Nat × Bool)} (hr : r = none) (hT : Tch [] w w') : RdPost w r (.returned (.tuple #[.slice none 0 0, .bool false, .bool false])) w' := by
  subst hr; exact ⟨hT, _, rfl, (RdB.nil w').rdA (by simp)⟩
theorem rdpost_yes {w w' : World} {r : Option (List Nat × Bool)} {v : Value} {l : List Nat} {b : Bool} (hr : r = some (l, b)) (hT : Tch [] w w') (hv : RdA [] w' v l) : RdPost w r (.returned (.tuple #[v, .bool b, .bool true])) w' := by
  subst hr; exact ⟨hT, _, rfl, hv⟩
theorem slice_fromB (b n k : Nat) (hk : k ≤ n) : ∃ p', (∀ w, (Instr.sliceAt 22 (.slice (some ⟨b, 0, none⟩) n n) (some (.int .i64 (k : Int))) none none).run Try.prog w = .ok (.slice p' (n - k) (n - k)) w) ∧ (k < n → p' = some ⟨b, k, none⟩) := by
  refine ⟨if n = k then some ⟨b, 0, none⟩ else some ⟨b, k, none⟩, fun w => ?_, fun h => by rw [if_neg (by omega)]⟩
  have hel : Try.prog.elem 22 = 5 := by kernel_rfl
  have ht : Try.prog.underlying 22 = some (.slice (Try.prog.elem 22)) := by rw [hel]; exact bytes_ty
  have e1 := run_sliceAt_slice (P := Try.prog) (w := w) 22 (.slice (some ⟨b, 0, none⟩) n n) (some (.int .i64 (k : Int))) none none ht
  have e2 := run_slice_l (P := Try.prog) (w := w) 22 (some ⟨b, 0, none⟩) n n ht .i64 (k : Int) (by omega) (by omega)
  rw [e1, e2, hel, sizeOf_u8]
  by_cases h : n = k
  · subst h; simp [Result.andThen, sliced]
  · simp [Result.andThen, sliced, Addr.add, h]
    omega
theorem high4 (x : Nat) : (x : Int) / 16 = ((x / 16 : Nat) : Int) := by omega
set_option maxHeartbeats 1000000 in
set_option maxRecDepth 100000 in
theorem read_nil (v : Value) (w : World) (hv : RdA [] w v []) : Calls Try.prog 12 #[v] w (RdPost w (readL [])) := by
  obtain ⟨p0, n, c', rfl⟩ := slice_keep hv
  have hlen := hv.len
  obtain rfl : n = 0 := by simpa using hlen
  clear hv hlen
  go_enter Try.func12, Try.ntmps12
  go_wp2
  go_ret3
  exact rdpost_no rfl (Tch.refl _ _)
set_option maxHeartbeats 1000000 in
set_option maxRecDepth 100000 in
theorem read_great (v : Value) (x : Nat) (r : List Nat) (w : World) (hm : (x :: r).length ≤ 100000) (hv : RdA [] w v (x :: r)) (hg : 3 < x / 16) : Calls Try.prog 12 #[v] w (RdPost w (readL (x :: r))) := by
  obtain ⟨p0, n, c', rfl⟩ := slice_keep hv
  have hlen := hv.len
  have hcap := hv.cap
  have hb := hv.lt
  obtain ⟨b, o, rfl, hbw, _, hc⟩ := hv.at_ (by simp)
  have hx := hb _ List.mem_cons_self
  have hc0 := hc 0 (by simp)
  rw [Nat.add_zero] at hc0
  simp only [List.getD_cons_zero] at hc0
  simp only [List.length_cons] at hlen hm
  have hn1 : ¬ n = 0 := by omega
  have hn0 : (0 : Int) < (n : Int) := by omega
  have hn00 : 0 < n := by omega
  have hS := St.start w
  obtain ⟨k, hk⟩ : ∃ k, k = x / 16 := ⟨_, rfl⟩
  have hk16 : k < 16 := by omega
  have h4 : (x : Int) / 16 = (k : Int) := by omega
  have hk3 : (3 : Int) < (k : Int) := by omega
  have hand := and15 x hx
  have HE := Lib.hid (show readL (x :: r) = none by rw [readL_cons, if_pos (.inl hg)])
  have hs16 : x % 16 < 16 := by omega
  obtain ⟨s, hs⟩ : ∃ s, s = x % 16 := ⟨_, rfl⟩
  rw [← hs] at hand hs16
  clear hv hlen hcap hb hc hg hk hs
  go_enter Try.func12, Try.ntmps12
  go_wp2
  refine wp_region_all (C := fun w' => ∃ k, w' = w.drewN k) (by kernel_rfl) (by kernel_rfl) ⟨1, rfl⟩ ?_
  repeat (quiet_step (fail))
  refine wpQuiet_nil ?_
  rintro w2 ⟨nq, rfl⟩
  replace hS := hS.drewN nq
  go_wp2
  go_ret3
  exact rdpost_no HE.out hS.frame
set_option maxHeartbeats 1000000 in
set_option maxRecDepth 100000 in
theorem read_bad0 (v : Value) (x s : Nat) (r : List Nat) (w : World) (hm : (x :: r).length ≤ 100000) (hv : RdA [] w v (x :: r)) (hg : x = 16 * 0 + s) (hs : s < 16) (hs0 : s ≠ 0) : Calls Try.prog 12 #[v] w (RdPost w (readL (x :: r))) := by
  obtain ⟨p0, n, c', rfl⟩ := slice_keep hv
  have hlen := hv.len
  have hcap := hv.cap
  have hb := hv.lt
  obtain ⟨b, o, rfl, hbw, _, hc⟩ := hv.at_ (by simp)
  have hx := hb _ List.mem_cons_self
  have hc0 := hc 0 (by simp)
  rw [Nat.add_zero] at hc0
  simp only [List.getD_cons_zero] at hc0
  simp only [List.length_cons] at hlen hm
  have hn1 : ¬ n = 0 := by omega
  have hn0 : (0 : Int) < (n : Int) := by omega
  have hn00 : 0 < n := by omega
  have hS := St.start w
  have h4 : (x : Int) / 16 = 0 := by omega
  have hand := and15 x hx
  rw [show x % 16 = s by omega] at hand
  have hsi : ((s : Int) != 0) = true := by rw [bne_iff_ne]; omega
  have hsn : ¬ (s : Int) = 0 := by omega
  have hk1 : bits BinOp.and IntKind.u8 0 1 = 0 := by decide
  have HE := Lib.hid (show readL (x :: r) = none by rw [readL_cons, if_pos (.inr ⟨by omega, by omega⟩)])
  clear hv hlen hcap hb hc hg
  go_enter Try.func12, Try.ntmps12
  go_wp2
  refine wp_region_all (C := fun w' => ∃ k, w' = w.drewN k) (by kernel_rfl) (by kernel_rfl) ⟨1, rfl⟩ ?_
  repeat (quiet_step (fail))
  refine wpQuiet_nil ?_
  rintro w2 ⟨nq, rfl⟩
  replace hS := hS.drewN nq
  go_wp2
  go_ret3
  exact rdpost_no HE.out hS.frame
set_option maxHeartbeats 1000000 in
set_option maxRecDepth 100000 in
theorem read_bad2 (v : Value) (x s : Nat) (r : List Nat) (w : World) (hm : (x :: r).length ≤ 100000) (hv : RdA [] w v (x :: r)) (hg : x = 16 * 2 + s) (hs : s < 16) (hs0 : s ≠ 0) : Calls Try.prog 12 #[v] w (RdPost w (readL (x :: r))) := by
  obtain ⟨p0, n, c', rfl⟩ := slice_keep hv
  have hlen := hv.len
  have hcap := hv.cap
  have hb := hv.lt
  obtain ⟨b, o, rfl, hbw, _, hc⟩ := hv.at_ (by simp)
  have hx := hb _ List.mem_cons_self
  have hc0 := hc 0 (by simp)
  rw [Nat.add_zero] at hc0
  simp only [List.getD_cons_zero] at hc0
  simp only [List.length_cons] at hlen hm
  have hn1 : ¬ n = 0 := by omega
  have hn0 : (0 : Int) < (n : Int) := by omega
  have hn00 : 0 < n := by omega
  have hS := St.start w
  have h4 : (x : Int) / 16 = 2 := by omega
  have hand := and15 x hx
  rw [show x % 16 = s by omega] at hand
  have hsi : ((s : Int) != 0) = true := by rw [bne_iff_ne]; omega
  have hsn : ¬ (s : Int) = 0 := by omega
  have hk1 : bits BinOp.and IntKind.u8 2 1 = 0 := by decide
  have HE := Lib.hid (show readL (x :: r) = none by rw [readL_cons, if_pos (.inr ⟨by omega, by omega⟩)])
  clear hv hlen hcap hb hc hg
  go_enter Try.func12, Try.ntmps12
  go_wp2
  refine wp_region_all (C := fun w' => ∃ k, w' = w.drewN k) (by kernel_rfl) (by kernel_rfl) ⟨1, rfl⟩ ?_
  repeat (quiet_step (fail))
  refine wpQuiet_nil ?_
  rintro w2 ⟨nq, rfl⟩
  replace hS := hS.drewN nq
  go_wp2
  go_ret3
  exact rdpost_no HE.out hS.frame
set_option maxHeartbeats 4000000 in
set_option maxRecDepth 100000 in
theorem read_good0 (v : Value) (x : Nat) (r : List Nat) (w : World) (hm : (x :: r).length ≤ 100000) (hv : RdA [] w v (x :: r)) (hg : x = 16 * 0) : Calls Try.prog 12 #[v] w (RdPost w (readL (x :: r))) := by
  obtain ⟨p0, n, c', rfl⟩ := slice_keep hv
  have hlen := hv.len
  have hcap := hv.cap
  have hb := hv.lt
  obtain ⟨b, o, rfl, hbw, _, hc⟩ := hv.at_ (by simp)
  have hx := hb _ List.mem_cons_self
  have hc0 := hc 0 (by simp)
  rw [Nat.add_zero] at hc0
  simp only [List.getD_cons_zero] at hc0
  simp only [List.length_cons] at hlen hm
  have hn1 : ¬ n = 0 := by omega
  have hn0 : (0 : Int) < (n : Int) := by omega
  have hn00 : 0 < n := by omega
  have hS := St.start w
  have h4 : (x : Int) / 16 = 0 := by omega
  have hand := and15 x hx
  rw [show x % 16 = 0 by omega] at hand
  have hk1 : bits BinOp.and IntKind.u8 0 1 = 0 := by decide
  have hk2 : bits BinOp.and IntKind.u8 0 2 = 0 := by decide
  obtain ⟨N, hN⟩ : ∃ N, N = 2 * (n - 1) + 0 := ⟨_, rfl⟩
  have hN2 : 2 * ((n : Int) - 1) = (N : Int) := by omega
  have hN6 : N ≤ 16000000 := by omega
  have HE := Lib.hid (show readL (x :: r) = some (nibs r, false) by
    rw [readL_cons, if_neg (by omega), if_neg (by omega)]
    have e1 : decide (2 ≤ x / 16) = false := by simp; omega
    rw [e1]
    rfl)
  obtain ⟨p3, c3, hsl, hc3, hrd⟩ := slice_from (some ⟨b, o, none⟩) n c' 1 (by omega) hcap
  have hrd1 := hrd [] w _ hv
  simp only [List.drop_succ_cons, List.drop_zero] at hrd1
  have hspl := fun (w1 : World) (b8 : Nat) (p4 : Option Addr) (f : Nat → Nat) (hp : 0 < N → p4 = some ⟨b8, 0, none⟩) (hS : St [] w w1 [(b8, 5, bc N f)]) =>
    split_any p4 N N b8 0 N _ r 5 f w1 (fun h => hp (by have := List.length_pos_iff.2 h; omega)) (by omega) (by omega) (by omega) (hrd1.fresh hS.frame ((hS.own .head).resolve_right (by simp))) (hS.get .head)
  have HSP := Lib.hid hspl
  have HR := Lib.hid (And.intro (show (nibs r).length = N by rw [nibs_length]; omega) (show ∀ y ∈ nibs r, y < 256 from fun y hy => by
    have hr : ∀ z ∈ r, z < 256 := fun z hz => hb z (List.mem_cons_of_mem _ hz)
    exact Nat.lt_of_lt_of_le (nibs_lt hr y hy) (by decide)))
  have hN1 : 0 ≤ N := by omega
  clear hv hlen hb hc hg hrd hrd1 hspl hN hcap hc3
  go_enter Try.func12, Try.ntmps12
  go_wp2
  refine wp_region_all (C := fun w' => ∃ k, w' = w.drewN k) (by kernel_rfl) (by kernel_rfl) ⟨1, rfl⟩ ?_
  repeat (quiet_step (fail))
  refine wpQuiet_nil ?_
  rintro w2 ⟨nq, rfl⟩
  replace hS := hS.drewN nq
  go_upto_region 10 with (first
    | (refine st_makeB N hS rfl _ _ rfl (by rw [← hN2]; rfl) (by rw [← hN2]; rfl) (by omega) ?_; clear hS; intro w3 b8 hS)
    | (refine st_store1 (b := b8) (j := 0) hS rfl 5 _ _ rfl (by rfl) rfl u8_size (by repeat (first | exact Upd.head | apply Upd.tail)) (by rw [bc_size]; omega) ?_; clear hS; intro w4 hS))
  obtain ⟨p4, hp4, hp4'⟩ := slice_fromB b8 N 0 hN1
  simp only [Nat.sub_zero] at hp4
  have hS1 := hS
  refine k_region_head (C := fun w' => St [] w w' [(b8, 5, bc N fun _ => 0)]) 5 (by kernel_rfl) (by kernel_rfl) hS.drew ?_
  simp only [List.take_succ_cons, List.take_zero, List.drop_succ_cons, List.drop_zero]
  refine k_slice rfl _ rfl rfl ?_; try simp only [Act.put, List.setIfInBounds_toArray, List.set_cons_zero, List.set_cons_succ]
  refine k_intm rfl _ rfl rfl ?_; try simp only [Act.put, List.setIfInBounds_toArray, List.set_cons_zero, List.set_cons_succ]
  refine k_sl rfl rfl rfl rfl rfl rfl hp4 ?_; try simp only [Act.put, List.setIfInBounds_toArray, List.set_cons_zero, List.set_cons_succ]
  refine k_slice rfl _ rfl rfl ?_; try simp only [Act.put, List.setIfInBounds_toArray, List.set_cons_zero, List.set_cons_succ]
  refine k_sl rfl rfl rfl rfl rfl rfl hsl ?_; try simp only [Act.put, List.setIfInBounds_toArray, List.set_cons_zero, List.set_cons_succ]
  refine k_end ?_
  clear hS hS1
  intro w5 hS
  go_wp2_with (go_at_call 17; go_must (have hu := HSP.out _ _ _ _ hp4' hS; (with_reducible refine hu.mono ?_); clear hu; rintro e w6 ⟨rfl, hT6, hB6⟩; replace hS := hS.on1 .head hT6 hB6))
  go_ret3
  have hB := hS.get .head
  exact rdpost_yes HE.out hS.frame (RdA.ofBlk' hB HR.out.1 HR.out.2 (by simp))
set_option maxHeartbeats 4000000 in
set_option maxRecDepth 100000 in
theorem read_good1 (v : Value) (x s : Nat) (r : List Nat) (w : World) (hm : (x :: r).length ≤ 100000) (hv : RdA [] w v (x :: r)) (hg : x = 16 * 1 + s) (hs : s < 16) : Calls Try.prog 12 #[v] w (RdPost w (readL (x :: r))) := by
  obtain ⟨p0, n, c', rfl⟩ := slice_keep hv
  have hlen := hv.len
  have hcap := hv.cap
  have hb := hv.lt
  obtain ⟨b, o, rfl, hbw, _, hc⟩ := hv.at_ (by simp)
  have hx := hb _ List.mem_cons_self
  have hc0 := hc 0 (by simp)
  rw [Nat.add_zero] at hc0
  simp only [List.getD_cons_zero] at hc0
  simp only [List.length_cons] at hlen hm
  have hn1 : ¬ n = 0 := by omega
  have hn0 : (0 : Int) < (n : Int) := by omega
  have hn00 : 0 < n := by omega
  have hS := St.start w
  have h4 : (x : Int) / 16 = 1 := by omega
  have hand := and15 x hx
  rw [show x % 16 = s by omega] at hand
  have hk1 : bits BinOp.and IntKind.u8 1 1 = 1 := by decide
  have hk2 : bits BinOp.and IntKind.u8 1 2 = 0 := by decide
  obtain ⟨N, hN⟩ : ∃ N, N = 2 * (n - 1) + 1 := ⟨_, rfl⟩
  have hN2 : 2 * ((n : Int) - 1) + 1 = (N : Int) := by omega
  have hN6 : N ≤ 16000000 := by omega
  have HE := Lib.hid (show readL (x :: r) = some (s :: nibs r, false) by
    rw [readL_cons, if_neg (by omega), if_pos (by omega)]
    have e1 : decide (2 ≤ x / 16) = false := by simp; omega
    rw [e1]
    have e2 : x % 16 = s := by omega
    rw [e2]; rfl)
  obtain ⟨p3, c3, hsl, hc3, hrd⟩ := slice_from (some ⟨b, o, none⟩) n c' 1 (by omega) hcap
  have hrd1 := hrd [] w _ hv
  simp only [List.drop_succ_cons, List.drop_zero] at hrd1
  have hspl := fun (w1 : World) (b8 : Nat) (p4 : Option Addr) (f : Nat → Nat) (hp : 1 < N → p4 = some ⟨b8, 1, none⟩) (hS : St [] w w1 [(b8, 5, bc N f)]) =>
    split_any p4 (N - 1) (N - 1) b8 1 N _ r 5 f w1 (fun h => hp (by have := List.length_pos_iff.2 h; omega)) (by omega) (by omega) (by omega) (hrd1.fresh hS.frame ((hS.own .head).resolve_right (by simp))) (hS.get .head)
  have HSP := Lib.hid hspl
  have HR := Lib.hid (And.intro (show (s :: nibs r).length = N by simp only [List.length_cons, nibs_length]; omega) (show ∀ y ∈ s :: nibs r, y < 256 from fun y hy => by
    have hr : ∀ z ∈ r, z < 256 := fun z hz => hb z (List.mem_cons_of_mem _ hz)
    rcases List.mem_cons.1 hy with rfl | hy
    · omega
    · exact Nat.lt_of_lt_of_le (nibs_lt hr y hy) (by decide)))
  have hN1 : 1 ≤ N := by omega
  have hNp : 0 < N := by omega
  clear hv hlen hb hc hg hrd hrd1 hspl hN hcap hc3
  go_enter Try.func12, Try.ntmps12
  go_wp2
  refine wp_region_all (C := fun w' => ∃ k, w' = w.drewN k) (by kernel_rfl) (by kernel_rfl) ⟨1, rfl⟩ ?_
  repeat (quiet_step (fail))
  refine wpQuiet_nil ?_
  rintro w2 ⟨nq, rfl⟩
  replace hS := hS.drewN nq
  go_upto_region 10 with (first
    | (refine st_makeB N hS rfl _ _ rfl (by rw [← hN2]; rfl) (by rw [← hN2]; rfl) (by omega) ?_; clear hS; intro w3 b8 hS)
    | (refine st_store1 (b := b8) (j := 0) hS rfl 5 _ _ rfl (by rfl) rfl u8_size (by repeat (first | exact Upd.head | apply Upd.tail)) (by rw [bc_size]; omega) ?_; clear hS; intro w4 hS))
  have hS5 : St [] w w4 [(b8, 5, bc N (wr (fun _ => 0) 0 [s]))] := by
    have e := wr_snoc (n0 := N) (f := fun _ => 0) (o := 0) (x := s) (m := []) (by simpa using hNp)
    rw [wr_nil] at e
    rw [show ([s] : List Nat) = [] ++ [s] from rfl, ← e]; exact hS
  clear hS
  have hS := hS5
  clear hS5
  obtain ⟨p4, hp4, hp4'⟩ := slice_fromB b8 N 1 hN1
  have hS1 := hS
  refine k_region_head (C := fun w' => St [] w w' [(b8, 5, bc N (wr (fun _ => 0) 0 [s]))]) 5 (by kernel_rfl) (by kernel_rfl) hS.drew ?_
  simp only [List.take_succ_cons, List.take_zero, List.drop_succ_cons, List.drop_zero]
  refine k_slice rfl _ rfl rfl ?_; try simp only [Act.put, List.setIfInBounds_toArray, List.set_cons_zero, List.set_cons_succ]
  refine k_intm rfl _ rfl rfl ?_; try simp only [Act.put, List.setIfInBounds_toArray, List.set_cons_zero, List.set_cons_succ]
  refine k_sl rfl rfl rfl rfl rfl rfl hp4 ?_; try simp only [Act.put, List.setIfInBounds_toArray, List.set_cons_zero, List.set_cons_succ]
  refine k_slice rfl _ rfl rfl ?_; try simp only [Act.put, List.setIfInBounds_toArray, List.set_cons_zero, List.set_cons_succ]
  refine k_sl rfl rfl rfl rfl rfl rfl hsl ?_; try simp only [Act.put, List.setIfInBounds_toArray, List.set_cons_zero, List.set_cons_succ]
  refine k_end ?_
  clear hS hS1
  intro w5 hS
  go_wp2_with (go_at_call 17; go_must (have hu := HSP.out _ _ _ _ hp4' hS; (with_reducible refine hu.mono ?_); clear hu; rintro e w6 ⟨rfl, hT6, hB6⟩; replace hS := hS.on1 .head hT6 hB6))
  go_ret3
  have hB := hS.get .head
  rw [wr_cons] at hB
  exact rdpost_yes HE.out hS.frame (RdA.ofBlk' hB HR.out.1 HR.out.2 (by simp))
set_option maxHeartbeats 4000000 in
set_option maxRecDepth 100000 in
theorem read_good2 (v : Value) (x : Nat) (r : List Nat) (w : World) (hm : (x :: r).length ≤ 100000) (hv : RdA [] w v (x :: r)) (hg : x = 16 * 2) : Calls Try.prog 12 #[v] w (RdPost w (readL (x :: r))) := by
  obtain ⟨p0, n, c', rfl⟩ := slice_keep hv
  have hlen := hv.len
  have hcap := hv.cap
  have hb := hv.lt
  obtain ⟨b, o, rfl, hbw, _, hc⟩ := hv.at_ (by simp)
  have hx := hb _ List.mem_cons_self
  have hc0 := hc 0 (by simp)
  rw [Nat.add_zero] at hc0
  simp only [List.getD_cons_zero] at hc0
  simp only [List.length_cons] at hlen hm
  have hn1 : ¬ n = 0 := by omega
  have hn0 : (0 : Int) < (n : Int) := by omega
  have hn00 : 0 < n := by omega
  have hS := St.start w
  have h4 : (x : Int) / 16 = 2 := by omega
  have hand := and15 x hx
  rw [show x % 16 = 0 by omega] at hand
  have hk1 : bits BinOp.and IntKind.u8 2 1 = 0 := by decide
  have hk2 : bits BinOp.and IntKind.u8 2 2 = 2 := by decide
  obtain ⟨N, hN⟩ : ∃ N, N = 2 * (n - 1) + 0 := ⟨_, rfl⟩
  have hN2 : 2 * ((n : Int) - 1) = (N : Int) := by omega
  have hN6 : N ≤ 16000000 := by omega
  have HE := Lib.hid (show readL (x :: r) = some (nibs r, true) by
    rw [readL_cons, if_neg (by omega), if_neg (by omega)]
    have e1 : decide (2 ≤ x / 16) = true := by simp; omega
    rw [e1]
    rfl)
  obtain ⟨p3, c3, hsl, hc3, hrd⟩ := slice_from (some ⟨b, o, none⟩) n c' 1 (by omega) hcap
  have hrd1 := hrd [] w _ hv
  simp only [List.drop_succ_cons, List.drop_zero] at hrd1
  have hspl := fun (w1 : World) (b8 : Nat) (p4 : Option Addr) (f : Nat → Nat) (hp : 0 < N → p4 = some ⟨b8, 0, none⟩) (hS : St [] w w1 [(b8, 5, bc N f)]) =>
    split_any p4 N N b8 0 N _ r 5 f w1 (fun h => hp (by have := List.length_pos_iff.2 h; omega)) (by omega) (by omega) (by omega) (hrd1.fresh hS.frame ((hS.own .head).resolve_right (by simp))) (hS.get .head)
  have HSP := Lib.hid hspl
  have HR := Lib.hid (And.intro (show (nibs r).length = N by rw [nibs_length]; omega) (show ∀ y ∈ nibs r, y < 256 from fun y hy => by
    have hr : ∀ z ∈ r, z < 256 := fun z hz => hb z (List.mem_cons_of_mem _ hz)
    exact Nat.lt_of_lt_of_le (nibs_lt hr y hy) (by decide)))
  have hN1 : 0 ≤ N := by omega
  clear hv hlen hb hc hg hrd hrd1 hspl hN hcap hc3
  go_enter Try.func12, Try.ntmps12
  go_wp2
  refine wp_region_all (C := fun w' => ∃ k, w' = w.drewN k) (by kernel_rfl) (by kernel_rfl) ⟨1, rfl⟩ ?_
  repeat (quiet_step (fail))
  refine wpQuiet_nil ?_
  rintro w2 ⟨nq, rfl⟩
  replace hS := hS.drewN nq
  go_upto_region 10 with (first
    | (refine st_makeB N hS rfl _ _ rfl (by rw [← hN2]; rfl) (by rw [← hN2]; rfl) (by omega) ?_; clear hS; intro w3 b8 hS)
    | (refine st_store1 (b := b8) (j := 0) hS rfl 5 _ _ rfl (by rfl) rfl u8_size (by repeat (first | exact Upd.head | apply Upd.tail)) (by rw [bc_size]; omega) ?_; clear hS; intro w4 hS))
  obtain ⟨p4, hp4, hp4'⟩ := slice_fromB b8 N 0 hN1
  simp only [Nat.sub_zero] at hp4
  have hS1 := hS
  refine k_region_head (C := fun w' => St [] w w' [(b8, 5, bc N fun _ => 0)]) 5 (by kernel_rfl) (by kernel_rfl) hS.drew ?_
  simp only [List.take_succ_cons, List.take_zero, List.drop_succ_cons, List.drop_zero]
  refine k_slice rfl _ rfl rfl ?_; try simp only [Act.put, List.setIfInBounds_toArray, List.set_cons_zero, List.set_cons_succ]
  refine k_intm rfl _ rfl rfl ?_; try simp only [Act.put, List.setIfInBounds_toArray, List.set_cons_zero, List.set_cons_succ]
  refine k_sl rfl rfl rfl rfl rfl rfl hp4 ?_; try simp only [Act.put, List.setIfInBounds_toArray, List.set_cons_zero, List.set_cons_succ]
  refine k_slice rfl _ rfl rfl ?_; try simp only [Act.put, List.setIfInBounds_toArray, List.set_cons_zero, List.set_cons_succ]
  refine k_sl rfl rfl rfl rfl rfl rfl hsl ?_; try simp only [Act.put, List.setIfInBounds_toArray, List.set_cons_zero, List.set_cons_succ]
  refine k_end ?_
  clear hS hS1
  intro w5 hS
  go_wp2_with (go_at_call 17; go_must (have hu := HSP.out _ _ _ _ hp4' hS; (with_reducible refine hu.mono ?_); clear hu; rintro e w6 ⟨rfl, hT6, hB6⟩; replace hS := hS.on1 .head hT6 hB6))
  go_ret3
  have hB := hS.get .head
  exact rdpost_yes HE.out hS.frame (RdA.ofBlk' hB HR.out.1 HR.out.2 (by simp))
set_option maxHeartbeats 4000000 in
set_option maxRecDepth 100000 in
theorem read_good3 (v : Value) (x s : Nat) (r : List Nat) (w : World) (hm : (x :: r).length ≤ 100000) (hv : RdA [] w v (x :: r)) (hg : x = 16 * 3 + s) (hs : s < 16) : Calls Try.prog 12 #[v] w (RdPost w (readL (x :: r))) := by
  obtain ⟨p0, n, c', rfl⟩ := slice_keep hv
  have hlen := hv.len
  have hcap := hv.cap
  have hb := hv.lt
  obtain ⟨b, o, rfl, hbw, _, hc⟩ := hv.at_ (by simp)
  have hx := hb _ List.mem_cons_self
  have hc0 := hc 0 (by simp)
  rw [Nat.add_zero] at hc0
  simp only [List.getD_cons_zero] at hc0
  simp only [List.length_cons] at hlen hm
  have hn1 : ¬ n = 0 := by omega
  have hn0 : (0 : Int) < (n : Int) := by omega
  have hn00 : 0 < n := by omega
  have hS := St.start w
  have h4 : (x : Int) / 16 = 3 := by omega
  have hand := and15 x hx
  rw [show x % 16 = s by omega] at hand
  have hk1 : bits BinOp.and IntKind.u8 3 1 = 1 := by decide
  have hk2 : bits BinOp.and IntKind.u8 3 2 = 2 := by decide
  obtain ⟨N, hN⟩ : ∃ N, N = 2 * (n - 1) + 1 := ⟨_, rfl⟩
  have hN2 : 2 * ((n : Int) - 1) + 1 = (N : Int) := by omega
  have hN6 : N ≤ 16000000 := by omega
  have HE := Lib.hid (show readL (x :: r) = some (s :: nibs r, true) by
    rw [readL_cons, if_neg (by omega), if_pos (by omega)]
    have e1 : decide (2 ≤ x / 16) = true := by simp; omega
    rw [e1]
    have e2 : x % 16 = s := by omega
    rw [e2]; rfl)
  obtain ⟨p3, c3, hsl, hc3, hrd⟩ := slice_from (some ⟨b, o, none⟩) n c' 1 (by omega) hcap
  have hrd1 := hrd [] w _ hv
  simp only [List.drop_succ_cons, List.drop_zero] at hrd1
  have hspl := fun (w1 : World) (b8 : Nat) (p4 : Option Addr) (f : Nat → Nat) (hp : 1 < N → p4 = some ⟨b8, 1, none⟩) (hS : St [] w w1 [(b8, 5, bc N f)]) =>
    split_any p4 (N - 1) (N - 1) b8 1 N _ r 5 f w1 (fun h => hp (by have := List.length_pos_iff.2 h; omega)) (by omega) (by omega) (by omega) (hrd1.fresh hS.frame ((hS.own .head).resolve_right (by simp))) (hS.get .head)
  have HSP := Lib.hid hspl
  have HR := Lib.hid (And.intro (show (s :: nibs r).length = N by simp only [List.length_cons, nibs_length]; omega) (show ∀ y ∈ s :: nibs r, y < 256 from fun y hy => by
    have hr : ∀ z ∈ r, z < 256 := fun z hz => hb z (List.mem_cons_of_mem _ hz)
    rcases List.mem_cons.1 hy with rfl | hy
    · omega
    · exact Nat.lt_of_lt_of_le (nibs_lt hr y hy) (by decide)))
  have hN1 : 1 ≤ N := by omega
  have hNp : 0 < N := by omega
  clear hv hlen hb hc hg hrd hrd1 hspl hN hcap hc3
  go_enter Try.func12, Try.ntmps12
  go_wp2
  refine wp_region_all (C := fun w' => ∃ k, w' = w.drewN k) (by kernel_rfl) (by kernel_rfl) ⟨1, rfl⟩ ?_
  repeat (quiet_step (fail))
  refine wpQuiet_nil ?_
  rintro w2 ⟨nq, rfl⟩
  replace hS := hS.drewN nq
  go_upto_region 10 with (first
    | (refine st_makeB N hS rfl _ _ rfl (by rw [← hN2]; rfl) (by rw [← hN2]; rfl) (by omega) ?_; clear hS; intro w3 b8 hS)
    | (refine st_store1 (b := b8) (j := 0) hS rfl 5 _ _ rfl (by rfl) rfl u8_size (by repeat (first | exact Upd.head | apply Upd.tail)) (by rw [bc_size]; omega) ?_; clear hS; intro w4 hS))
  have hS5 : St [] w w4 [(b8, 5, bc N (wr (fun _ => 0) 0 [s]))] := by
    have e := wr_snoc (n0 := N) (f := fun _ => 0) (o := 0) (x := s) (m := []) (by simpa using hNp)
    rw [wr_nil] at e
    rw [show ([s] : List Nat) = [] ++ [s] from rfl, ← e]; exact hS
  clear hS
  have hS := hS5
  clear hS5
  obtain ⟨p4, hp4, hp4'⟩ := slice_fromB b8 N 1 hN1
  have hS1 := hS
  refine k_region_head (C := fun w' => St [] w w' [(b8, 5, bc N (wr (fun _ => 0) 0 [s]))]) 5 (by kernel_rfl) (by kernel_rfl) hS.drew ?_
  simp only [List.take_succ_cons, List.take_zero, List.drop_succ_cons, List.drop_zero]
  refine k_slice rfl _ rfl rfl ?_; try simp only [Act.put, List.setIfInBounds_toArray, List.set_cons_zero, List.set_cons_succ]
  refine k_intm rfl _ rfl rfl ?_; try simp only [Act.put, List.setIfInBounds_toArray, List.set_cons_zero, List.set_cons_succ]
  refine k_sl rfl rfl rfl rfl rfl rfl hp4 ?_; try simp only [Act.put, List.setIfInBounds_toArray, List.set_cons_zero, List.set_cons_succ]
  refine k_slice rfl _ rfl rfl ?_; try simp only [Act.put, List.setIfInBounds_toArray, List.set_cons_zero, List.set_cons_succ]
  refine k_sl rfl rfl rfl rfl rfl rfl hsl ?_; try simp only [Act.put, List.setIfInBounds_toArray, List.set_cons_zero, List.set_cons_succ]
  refine k_end ?_
  clear hS hS1
  intro w5 hS
  go_wp2_with (go_at_call 17; go_must (have hu := HSP.out _ _ _ _ hp4' hS; (with_reducible refine hu.mono ?_); clear hu; rintro e w6 ⟨rfl, hT6, hB6⟩; replace hS := hS.on1 .head hT6 hB6))
  go_ret3
  have hB := hS.get .head
  rw [wr_cons] at hB
  exact rdpost_yes HE.out hS.frame (RdA.ofBlk' hB HR.out.1 HR.out.2 (by simp))
theorem Read_any (v : Value) (l : List Nat) (w : World) (hm : l.length ≤ 100000) (hv : RdA [] w v l) : Calls Try.prog 12 #[v] w (RdPost w (readL l)) := by
  match l, hm, hv with
  | [], _, hv => exact read_nil v w hv
  | x :: r, hm, hv =>
    have hx := hv.lt x List.mem_cons_self
    by_cases h3 : 3 < x / 16
    · exact read_great v x r w hm hv h3
    · obtain ⟨s, hs⟩ : ∃ s, s = x % 16 := ⟨_, rfl⟩
      by_cases h0 : x / 16 = 0
      · by_cases hz : s = 0
        · exact read_good0 v x r w hm hv (by omega)
        · exact read_bad0 v x s r w hm hv (by omega) (by omega) hz
      · by_cases h2 : x / 16 = 2
        · by_cases hz : s = 0
          · exact read_good2 v x r w hm hv (by omega)
          · exact read_bad2 v x s r w hm hv (by omega) (by omega) hz
        · by_cases h1 : x / 16 = 1
          · exact read_good1 v x s r w hm hv (by omega) (by omega)
          · exact read_good3 v x s r w hm hv (by omega) (by omega)
end Go.Proofs.Ytgdojomaknbheaa
