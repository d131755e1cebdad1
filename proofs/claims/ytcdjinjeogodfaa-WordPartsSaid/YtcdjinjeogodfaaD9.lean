/- Long division. -/
import Derived.Test.YtcdjinjeogodfaaDY
import Derived.Test.YtcdjinjeogodfaaDN
import Derived.StillTailTactics
namespace Go.Proofs.Ytcdjinjeogodfaa
open Go.RowKit

def DividePost (U V : Nat) (w : World) (e : Ending) (w' : World) : Prop := e = .returned (.tuple #[.agg (dig 8 (U / V)), .agg (dig 4 (if V = 0 then 0 else U % V))]) ∧ Below w.heap.size w w'
theorem results_cells {P : Program} {fn : Func} {p q : Tmp} {ty uy : TypeId} {w : World} {b b' : Nat} {t t' : TypeId} {c c' : Array Value} {n n' e e' k k' : Nat} (hr : fn.results = #[.cell p ty, .cell q uy]) (tmps : Array Value) (hp : tmps.getD p undef = .pointer (some ⟨b, 0, none⟩)) (hq : tmps.getD q undef = .pointer (some ⟨b', 0, none⟩))
    (h : Blk w b t c) (h' : Blk w b' t' c') (hu : P.underlying ty = some (.array n e)) (hu' : P.underlying uy = some (.array n' e')) (hi : (P.info? ty).map (·.size) = some k) (hi' : (P.info? uy).map (·.size) = some k') (hc : c.size = k) (hc' : c'.size = k') :
    (results fn tmps).run P w = .ok (.tuple #[.agg c, .agg c']) w := by
  have e1 := run_loadVar_row w b t ty c (0, 0) _ h hu rfl (by rw [hc]; exact hi)
  have e2 := run_loadVar_row w b' t' uy c' (0, 0) _ h' hu' rfl (by rw [hc']; exact hi')
  have a1 : (asAddr (.pointer (some ⟨b, 0, none⟩))).run P w = .ok ⟨b, 0, none⟩ w := rfl
  have a2 : (asAddr (.pointer (some ⟨b', 0, none⟩))).run P w = .ok ⟨b', 0, none⟩ w := rfl
  rw [Array.getD_eq_getD_getElem?] at hp hq
  simp [results, hr, hp, hq, a1, a2, e1, e2]
theorem built4 (n0 n1 n2 n3 : Int) : Try.prog.built 42 [(0, .int .u64 n0), (1, .int .u64 n1), (2, .int .u64 n2), (3, .int .u64 n3)] = some #[.int .u64 n0, .int .u64 n1, .int .u64 n2, .int .u64 n3] := by kernel_rfl
theorem k_build4 {ops : Array Oper} {o : Oper} {a : Act} {rest : List Oper} {C : World → Prop} {Qa : Act → Prop} {x : Nat} {x0 x1 x2 x3 : Operand} (hw : Region.wanted o (yielded ops a.tmps) = true) (ho : o.op = .build 42 #[(0, x0), (1, x1), (2, x2), (3, x3)]) (h0 : a.eval x0 = .int .u64 ((lm x 0 : Nat) : Int)) (h1 : a.eval x1 = .int .u64 ((lm x 1 : Nat) : Int)) (h2 : a.eval x2 = .int .u64 ((lm x 2 : Nat) : Int)) (h3 : a.eval x3 = .int .u64 ((lm x 3 : Nat) : Int))
    (h : KQ ops C Qa rest (a.put o.dst (.agg (dig 4 x)))) : KQ ops C Qa (o :: rest) a :=
  k_pure hw (fun w => by
    have hr := run_build (P := Try.prog) w 42 #[(0, .int .u64 ((lm x 0 : Nat) : Int)), (1, .int .u64 ((lm x 1 : Nat) : Int)), (2, .int .u64 ((lm x 2 : Nat) : Int)), (3, .int .u64 ((lm x 3 : Nat) : Int))] _ (built4 _ _ _ _)
    rw [dig4_of9] at hr
    unfold execOp
    simp only [ho, List.map_toArray, List.map_cons, List.map_nil, h0, h1, h2, h3, Sem.run_bind, hr, Result.andThen_ok, Sem.run_pure]) h
set_option maxHeartbeats 8000000 in
set_option maxRecDepth 100000 in
theorem divide_any (U V : Nat) (w : World) (hU : U < 2 ^ (64 * 8)) (hV : V < M256) :
    Calls Try.prog 77 #[.agg (dig 8 U), .agg (dig 4 V)] w (DividePost U V w) := by
  have HU := Lib.hid (And.intro hU hV)
  clear hU hV
  have hS := St.start w
  go_enter Try.func77, Try.ntmps77
  go_wp2_with (first | (have _t := b9; clear _t; refine st_new hS rfl 80 rfl nine_zero ?_; clear hS; intro w1 b10 hS) | (have _t := b6; clear _t; refine st_new hS rfl 42 rfl limbs_zero ?_; clear hS; intro w1 b9 hS) | (have _t := b5; clear _t; refine st_new hS rfl 53 rfl wide_zero ?_; clear hS; intro w1 b6 hS) | (have _t := b4; clear _t; refine st_new hS rfl 42 rfl limbs_zero ?_; clear hS; intro w1 b5 hS) | (have _t := b3; clear _t; refine st_new hS rfl 53 rfl wide_zero ?_; clear hS; intro w1 b4 hS) | (have _t := b2; clear _t; refine st_box hS rfl _ _ rfl rfl ?_; clear hS; intro w1 b3 hS) | (refine st_box hS rfl _ _ rfl rfl ?_; clear hS; intro w1 b2 hS) | (refine st_load hS rfl 42 _ rfl rfl (by repeat (first | exact At.head | apply At.tail)) limbs_type rfl limbs_size (dig_size _ _) ?_))
  refine (count_any V _ HU.out.2).mono ?_
  rintro e w1 ⟨n, hn4, hlt, htop, rfl, hb⟩
  replace hS := hS.call hb
  clear hb
  rcases Nat.eq_zero_or_pos n with h0 | h0
  · subst h0
    have hV0 : V = 0 := by simpa using hlt
    subst hV0
    clear htop hlt
    go_wp2_with (first | (refine st_load hS rfl 53 _ rfl rfl (by repeat (first | exact At.head | apply At.tail)) wide_type rfl wide_size (dig_size _ _) ?_) | (refine st_store (c' := dig 8 0) hS rfl 53 _ _ rfl rfl rfl (by repeat (first | exact Upd.head | apply Upd.tail)) wide_size (dig_size _ _) (dig_size _ _) (dig_one _ _) ?_; clear hS; intro w1 hS) | (refine st_store (c' := dig 4 0) hS rfl 42 _ _ rfl rfl (by rw [dig_zero4]; rfl) (by repeat (first | exact Upd.head | apply Upd.tail)) limbs_size (dig_size _ _) (dig_size _ _) (dig_one _ _) ?_; clear hS; intro w1 hS))
    refine bodyPost_ret (results_cells rfl _ rfl rfl (hS.get (.tail (.tail .head))) (hS.get (.tail .head)) wide_type limbs_type wide_size limbs_size (dig_size _ _) (dig_size _ _)) rfl ⟨?_, hS.below⟩
    rw [if_pos rfl, Nat.div_zero]
  · have hnz := htop (by omega)
    have hnrm := nrm_of h0 hlt hnz
    have hV0 : V ≠ 0 := by rintro rfl; simp [lm] at hnz
    obtain ⟨n1, hn1⟩ : ∃ n1, n1 = n - 1 := ⟨_, rfl⟩
    rw [← hn1] at hnz hnrm
    have g3 := (hS.get (.tail (.tail (.tail .head)))).cell (dig_get (n := 4) (x := V) (show n1 < 4 by omega))
    have hlead := fun w => lead_any (lm V n1) w (lm_lt _ _)
    obtain ⟨s, hs⟩ : ∃ s, s = 64 - bitLen (lm V n1) := ⟨_, rfl⟩
    rw [← hs] at hnrm hlead
    have hs64 : s < 64 := hnrm.sh
    have tn : (n : Int) - 1 = (n1 : Int) := by omega
    have hn1b : n1 < 4 := by omega
    have hz : ((n : Int) == 0) = false := by simp; omega
    simp only [lm] at hlead
    generalize V / 2 ^ (64 * n1) % 2 ^ 64 = tl at *
    obtain ⟨m, hm⟩ : ∃ m, m = n + 1 := ⟨_, rfl⟩
    have hnrm' : Nrm V n s := hnrm
    have HN := Lib.hid (And.intro h0 (And.intro hn4 (And.intro hnrm' hm)))
    have HC := Lib.hid (And.intro hlead (And.intro (fun w => left_any V s HU.out.2 (by omega) w) (fun w => leftInto_any U s w HU.out.1 hs64)))
    have HVZ := Lib.hid hV0
    clear htop hlt hnz hnrm hnrm' hlead hs hm hn1 hV0
    go_wp2_with (first | (have _t := b9; clear _t; refine st_new hS rfl 80 rfl nine_zero ?_; clear hS; intro w1 b10 hS) | (have _t := b6; clear _t; refine st_new hS rfl 42 rfl limbs_zero ?_; clear hS; intro w1 b9 hS) | (refine st_load hS rfl 42 _ rfl rfl (by repeat (first | exact At.head | apply At.tail)) limbs_type rfl limbs_size (dig_size _ _) ?_) | (refine st_store hS rfl 42 _ _ rfl rfl rfl (by repeat (first | exact Upd.head | apply Upd.tail)) limbs_size (dig_size _ _) (dig_size _ _) (dig_one _ _) ?_; clear hS; intro w1 hS) | (refine st_load hS rfl 53 _ rfl rfl (by repeat (first | exact At.head | apply At.tail)) wide_type rfl wide_size (dig_size _ _) ?_) | (refine st_store hS rfl 80 _ _ rfl rfl rfl (by repeat (first | exact Upd.head | apply Upd.tail)) nine_size (dig_size _ _) (dig_size _ _) (dig_one _ _) ?_; clear hS; intro w1 hS) | (go_at_call 103; with_reducible refine (HC.out.1 _).mono ?_; rintro e w' ⟨rfl, rfl⟩) | (go_at_call 104; with_reducible refine (HC.out.2.1 _).mono ?_; rintro e w1 ⟨rfl, hb⟩; replace hS := hS.call hb; clear hb) | (go_at_call 105; with_reducible refine (HC.out.2.2 _).mono ?_; rintro e w1 ⟨rfl, hb⟩; replace hS := hS.call hb; clear hb))
    go_loopw [11] (fun t wr => ∃ k Q R : Nat, k ≤ 8 - n + 1 ∧ t = .int .i64 ((k : Int) - 1) ∧ Hid (Dv (U * 2 ^ s) (V * 2 ^ s) k Q R) ∧ St w wr [(b10, 80, dig 9 R), (b9, 42, dig 4 (V * 2 ^ s)), (b6, 53, dig 8 Q), (b5, 42, dig 4 0), (b4, 53, dig 8 0), (b3, 42, dig 4 V), (b2, 53, dig 8 U)]) (fun t _ => (intOf t + 1).toNat)
    case atStart => exact ⟨8 - n + 1, 0, U * 2 ^ s, by omega, by congr 1; omega, Lib.hid (dv_start HN.out.2.2.1 HN.out.1 (by omega) HU.out.1), hS⟩
    case round =>
      clear hS
      obtain ⟨k, Q, R, hk, rfl, HD, hS⟩ := hrel
      rcases Nat.eq_zero_or_pos k with hk0 | hk0
      · subst hk0
        have hdn := HD.out.done HN.out.2.2.1.pos
        rw [Nat.mul_div_mul_right _ _ (Nat.two_pow_pos s), Nat.mul_mod_mul_right] at hdn
        rw [hdn.1, hdn.2] at hS
        have hr4 := fun w => right_any (U % V * 2 ^ s) s (Nat.lt_trans (Nat.lt_of_lt_of_le (Nat.mul_lt_mul_of_pos_right (Nat.mod_lt U (Nat.pos_of_ne_zero HVZ.out)) (Nat.two_pow_pos s)) (Nat.le_refl _)) (Nat.lt_of_lt_of_le HN.out.2.2.1.lt (Nat.pow_le_pow_right (by decide) (by omega)))) (by omega) w
        rw [Nat.mul_div_cancel _ (Nat.two_pow_pos s)] at hr4
        have HR := Lib.hid hr4
        clear hdn hr4
        go_wp2_with (fail)
        refine k_region_head (C := fun w' => St w w' _) 12 (by kernel_rfl) (by kernel_rfl) hS.drew ?_
        simp only [List.take_succ_cons, List.take_zero, List.drop_succ_cons, List.drop_zero]
        repeat (first | (refine k_skip rfl rfl rfl rfl rfl ?_; try simp only [Act.put, List.setIfInBounds_toArray, List.set_cons_zero, List.set_cons_succ]) | (refine k_load rfl 53 _ rfl rfl (by repeat (first | exact At.head | apply At.tail)) wide_type wide_size (dig_size _ _) ?_; try simp only [Act.put, List.setIfInBounds_toArray, List.set_cons_zero, List.set_cons_succ]) | (refine k_idx 0 rfl 80 _ _ rfl rfl rfl nine_type u64_size (by decide) ?_; try simp only [Act.put, List.setIfInBounds_toArray, List.set_cons_zero, List.set_cons_succ]) | (refine k_idx 1 rfl 80 _ _ rfl rfl rfl nine_type u64_size (by decide) ?_; try simp only [Act.put, List.setIfInBounds_toArray, List.set_cons_zero, List.set_cons_succ]) | (refine k_idx 2 rfl 80 _ _ rfl rfl rfl nine_type u64_size (by decide) ?_; try simp only [Act.put, List.setIfInBounds_toArray, List.set_cons_zero, List.set_cons_succ]) | (refine k_idx 3 rfl 80 _ _ rfl rfl rfl nine_type u64_size (by decide) ?_; try simp only [Act.put, List.setIfInBounds_toArray, List.set_cons_zero, List.set_cons_succ]) | (refine k_cell rfl 40 _ rfl rfl (by repeat (first | exact At.head | apply At.tail)) (by with_reducible exact dig_get (by decide)) u64_agg ?_; try simp only [Act.put, List.setIfInBounds_toArray, List.set_cons_zero, List.set_cons_succ]) | (refine k_build4 rfl rfl rfl rfl rfl rfl ?_; try simp only [Act.put, List.setIfInBounds_toArray, List.set_cons_zero, List.set_cons_succ]) | (refine k_call_wi rfl rfl rfl rfl (by with_reducible exact ⟨Try.call107, HR.out⟩) ?_; try simp only [Act.put, List.setIfInBounds_toArray, List.set_cons_zero, List.set_cons_succ]) | (refine k_boolm rfl _ rfl rfl ?_; try simp only [Act.put, List.setIfInBounds_toArray, List.set_cons_zero, List.set_cons_succ]) | (refine k_boola rfl _ rfl rfl ?_; try simp only [Act.put, List.setIfInBounds_toArray, List.set_cons_zero, List.set_cons_succ]) | (refine k_intm rfl _ rfl rfl ?_; try simp only [Act.put, List.setIfInBounds_toArray, List.set_cons_zero, List.set_cons_succ]) | (refine k_inta rfl _ rfl rfl ?_; try simp only [Act.put, List.setIfInBounds_toArray, List.set_cons_zero, List.set_cons_succ]) | (refine k_pickT rfl _ _ _ rfl rfl rfl ?_; try simp only [Act.put, List.setIfInBounds_toArray, List.set_cons_zero, List.set_cons_succ]) | (refine k_pickF rfl _ _ _ rfl rfl rfl ?_; try simp only [Act.put, List.setIfInBounds_toArray, List.set_cons_zero, List.set_cons_succ]) | (refine k_bools rfl _ _ _ rfl rfl rfl ?_; try simp only [Act.put, List.setIfInBounds_toArray, List.set_cons_zero, List.set_cons_succ]))
        refine k_end ?_
        clear hS
        intro w1 hS
        go_wp2_with (first | (refine st_store hS rfl 53 _ _ rfl rfl rfl (by repeat (first | exact Upd.head | apply Upd.tail)) wide_size (dig_size _ _) (dig_size _ _) (dig_one _ _) ?_; clear hS; intro w1 hS) | (refine st_store hS rfl 42 _ _ rfl rfl rfl (by repeat (first | exact Upd.head | apply Upd.tail)) limbs_size (dig_size _ _) (dig_size _ _) (dig_one _ _) ?_; clear hS; intro w1 hS))
        refine bodyPost_ret (results_cells rfl _ rfl rfl (hS.get (.tail (.tail (.tail (.tail .head))))) (hS.get (.tail (.tail (.tail .head)))) wide_type limbs_type wide_size limbs_size (dig_size _ _) (dig_size _ _)) rfl ⟨?_, hS.below⟩
        rw [if_neg HVZ.out]
      · obtain ⟨j, hj⟩ : ∃ j, k = j + 1 := ⟨k - 1, by omega⟩
        subst hj
        have e0 : ((j + 1 : Nat) : Int) - 1 = (j : Int) := by omega
        rw [e0]
        clear e0
        have hst := HD.out.step HN.out.2.2.1.pos
        have hj8 : j < 8 := by omega
        have hjn : j + n ≤ 8 := by omega
        obtain ⟨jn, hjnd⟩ : ∃ jn, jn = j + n := ⟨_, rfl⟩
        obtain ⟨j1, hj1d⟩ : ∃ j1, j1 = j + n + 1 := ⟨_, rfl⟩
        have hsl1 : ∀ w, (Instr.sliceAt 80 (.pointer (some ⟨b10, 0, none⟩)) (some (.int .i64 (j : Int))) (some (.int .i64 (j1 : Int))) none).run Try.prog w = .ok (.slice (some ⟨b10, j, none⟩) m (9 - j)) w := fun w => by
          have := slice_both (b := b10) (lo := (j : Int)) (hi := (j1 : Int)) nine_type u64_size (by omega) (by omega) (by omega) (by omega) w
          rw [Int.toNat_natCast, Int.toNat_natCast] at this
          rwa [show m = j1 - j by have := HN.out.2.2.2; omega]
        have hsl2 : ∀ w, (Instr.sliceAt 42 (.pointer (some ⟨b9, 0, none⟩)) none (some (.int .i64 (n : Int))) none).run Try.prog w = .ok (.slice (some ⟨b9, 0, none⟩) n 4) w := fun w => by
          have := slice_hi (b := b9) (hi := (n : Int)) limbs_type u64_size (by omega) (by omega) (by decide) w
          rwa [Int.toNat_natCast] at this
        have HST := Lib.hid (And.intro hst.1 (And.intro hst.2.1 hst.2.2))
        have HJ := Lib.hid (And.intro (show IntKind.i64.wrap ((j : Int) + (n : Int)) = (jn : Int) by rw [IntWalk.i64_in _ (by omega)]; omega) (And.intro (show IntKind.i64.wrap ((jn : Int) + 1) = (j1 : Int) by rw [IntWalk.i64_in _ (by omega)]; omega) (And.intro hsl1 (And.intro hsl2 (And.intro hj8 hst.2.1)))))
        clear hst hsl1 hsl2 hjnd hj1d
        go_wp2_with (fail)
        refine wp_region_held_drew (S := fun _ => True) (by kernel_rfl) trivial fun _ => ?_
        replace hS := hS.drew
        simp only [List.size_toArray, List.length_cons, List.length_nil, Nat.reduceAdd, Array.replicate_succ, Array.replicate_zero, List.push_toArray, List.nil_append, List.cons_append]
        refine wpAnyH_take (i := 0) rfl (by kernel_rfl) (by kernel_rfl) (by kernel_rfl) (fun _ _ _ h => h) (y_move rfl _ (.inl rfl) rfl) trivial ?_; simp only [Act.put, List.getElem_toArray, List.getElem_cons_succ, List.getElem_cons_zero, List.setIfInBounds_toArray, List.set_cons_zero, List.set_cons_succ]
        refine wpAnyH_take (i := 1) rfl (by kernel_rfl) (by kernel_rfl) (by kernel_rfl) (fun _ _ _ h => h) (y_move rfl _ (.inl rfl) rfl) trivial ?_; simp only [Act.put, List.getElem_toArray, List.getElem_cons_succ, List.getElem_cons_zero, List.setIfInBounds_toArray, List.set_cons_zero, List.set_cons_succ]
        refine wpAnyH_take (i := 2) rfl (by kernel_rfl) (by kernel_rfl) (by kernel_rfl) (fun _ _ _ h => h) (y_move rfl _ (.inl rfl) rfl) trivial ?_; simp only [Act.put, List.getElem_toArray, List.getElem_cons_succ, List.getElem_cons_zero, List.setIfInBounds_toArray, List.set_cons_zero, List.set_cons_succ]
        refine wpAnyH_take (i := 3) rfl (by kernel_rfl) (by kernel_rfl) (by kernel_rfl) (fun _ _ _ h => h) (y_move rfl _ (.inl rfl) rfl) trivial ?_; simp only [Act.put, List.getElem_toArray, List.getElem_cons_succ, List.getElem_cons_zero, List.setIfInBounds_toArray, List.set_cons_zero, List.set_cons_succ]
        refine wpAnyH_take (i := 4) rfl (by kernel_rfl) (by kernel_rfl) (by kernel_rfl) (fun _ _ _ h => h) (y_add rfl _ _ _ _ rfl rfl rfl HJ.out.1) trivial ?_; simp only [Act.put, List.getElem_toArray, List.getElem_cons_succ, List.getElem_cons_zero, List.setIfInBounds_toArray, List.set_cons_zero, List.set_cons_succ]
        refine wpAnyH_take (i := 5) rfl (by kernel_rfl) (by kernel_rfl) (by kernel_rfl) (fun _ _ _ h => h) (y_add rfl _ _ _ _ rfl rfl rfl HJ.out.2.1) trivial ?_; simp only [Act.put, List.getElem_toArray, List.getElem_cons_succ, List.getElem_cons_zero, List.setIfInBounds_toArray, List.set_cons_zero, List.set_cons_succ]
        refine wpAnyH_take (i := 6) rfl (by kernel_rfl) (by kernel_rfl) (by kernel_rfl) (fun _ _ _ h => h) (y_slice2 rfl 80 _ _ _ rfl rfl rfl rfl HJ.out.2.2.1) trivial ?_; simp only [Act.put, List.getElem_toArray, List.getElem_cons_succ, List.getElem_cons_zero, List.setIfInBounds_toArray, List.set_cons_zero, List.set_cons_succ]
        refine wpAnyH_take (i := 7) rfl (by kernel_rfl) (by kernel_rfl) (by kernel_rfl) (fun _ _ _ h => h) (y_move rfl _ (.inl rfl) rfl) trivial ?_; simp only [Act.put, List.getElem_toArray, List.getElem_cons_succ, List.getElem_cons_zero, List.setIfInBounds_toArray, List.set_cons_zero, List.set_cons_succ]
        refine wpAnyH_take (i := 8) rfl (by kernel_rfl) (by kernel_rfl) (by kernel_rfl) (fun _ _ _ h => h) (y_slice1 rfl 42 _ _ rfl rfl rfl HJ.out.2.2.2.1) trivial ?_; simp only [Act.put, List.getElem_toArray, List.getElem_cons_succ, List.getElem_cons_zero, List.setIfInBounds_toArray, List.set_cons_zero, List.set_cons_succ]
        refine wpAnyH_all (rs := [9]) (by kernel_rfl) (by simp) ?_
        intro i hi
        obtain rfl : i = 9 := by simpa using hi
        refine o_callR rfl rfl (by kernel_rfl) (take_any b10 b9 j n m (9 - j) 4 R (V * 2 ^ s) 80 42 _ HN.out.2.2.2 HN.out.1 HN.out.2.1 (by omega) (hS.neq .head (.tail .head) (fun e h => by have := h.1.symm.trans h.2; simp at this)) (hS.get .head) (hS.get (.tail .head)) HN.out.2.2.1.lt HN.out.2.2.1.top HJ.out.2.2.2.2.2) ?_
        rintro e w1 ⟨rfl, hB, hO⟩
        replace hS := hS.upd .head hO hB
        refine ⟨_, rfl, trivial, ?_⟩
        simp only [Act.put, List.getElem_toArray, List.getElem_cons_succ, List.getElem_cons_zero, List.setIfInBounds_toArray, List.set_cons_zero, List.set_cons_succ]
        refine wpAnyH_take (i := 10) rfl (by kernel_rfl) (by kernel_rfl) (by kernel_rfl) (fun _ _ _ h => h) (y_idx rfl 53 _ _ rfl rfl rfl wide_type u64_size HJ.out.2.2.2.2.1) trivial ?_; simp only [Act.put, List.getElem_toArray, List.getElem_cons_succ, List.getElem_cons_zero, List.setIfInBounds_toArray, List.set_cons_zero, List.set_cons_succ]
        refine wpAnyH_all (rs := [11]) (by kernel_rfl) (by simp) ?_
        intro i hi
        obtain rfl : i = 11 := by simpa using hi
        refine o_store1 (j := j) rfl rfl hS 40 _ _ rfl rfl rfl u64_size (.tail (.tail .head)) (by rw [dig_size]; exact HJ.out.2.2.2.2.1) fun w1 hS => ⟨trivial, ?_⟩
        simp only [Act.put, List.getElem_toArray, List.getElem_cons_succ, List.getElem_cons_zero, List.setIfInBounds_toArray, List.set_cons_zero, List.set_cons_succ]
        refine wpAnyH_done (by kernel_rfl) ?_ _
        rw [dig_put HJ.out.2.2.2.2.1 HST.out.2.2] at hS
        go_wp2
        go_roundw
        case rel => exact ⟨j, _, _, by omega, rfl, Lib.hid HST.out.1, hS⟩
        case measure => simp [intOf]
end Go.Proofs.Ytcdjinjeogodfaa
