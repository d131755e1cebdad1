/- The document's Big. -/
import Derived.Test.YtjlhnjnoigjjfaaDoorN2
namespace Go.Proofs.YtjlhnjnoigjjfaaDoor
open Go.RowKit

theorem nb_ne {l : List Nat} {i : Nat} {u : Value} (h : (nb l)[i]? = some u) : i < l.length ∧ u = .int .u8 ((l.getD i 0 : Nat) : Int) := by
  have hi : i < l.length := by
    have := (List.getElem?_eq_some_iff.1 h).1
    rwa [nb_length] at this
  rw [nb_get hi] at h
  exact ⟨hi, (Option.some.inj h).symm⟩
theorem append_any_nil (ty : TypeId) (q : Option Addr) (n c c' : Nat) (w : World) (hn : n ≤ c) (hq : q = none → n = 0 ∧ c = 0) : (Builtin.append_ #[24, 24] ty #[.slice q n c, .slice none 0 c']).run Tryd.prog w = .ok (.slice q n c) w := by
  obtain ⟨i, hi, hz, hs, hb⟩ := info_parts A_info
  cases q with
  | none =>
    obtain ⟨rfl, rfl⟩ := hq rfl
    simp [Builtin.append_, run_underlying bytes_ty, sizeOf, typeInfo, hi, storeCells, Builtin.lenOf, Builtin.firstCells]
  | some a => simp [Builtin.append_, run_underlying bytes_ty, sizeOf, typeInfo, hi, storeCells, Builtin.lenOf, Builtin.firstCells, hn]
/-- append(v, u...), v the call's own. -/
theorem st_appB {ops : Array Oper} {rest : List Oper} {o : Oper} {a : Act} {w0 w : World} {Q : Exit → Act → World → Prop} {v u : Value} {l m : List Nat} {ty : TypeId} (hgd : o.guard = none) (s x : Operand)
    (ho : o.op = .call { callee := .builtin .append, args := #[s, x], argTypes := #[24, 24] }) (hs : a.eval s = v) (hx : a.eval x = u) (hown : w.ownsRow w0.heap.size 5 1 v l.length (nb l)) (hT : Tch [] w0 w) (hu : RdB w u m) (hl : l.length + m.length ≤ 100000000)
    (h : ∀ v' w', w'.ownsRow w0.heap.size 5 1 v' (l ++ m).length (nb (l ++ m)) → Tch [] w0 w' → wpList Tryd.prog ops Q rest (a.put o.dst v') w') : wpList Tryd.prog ops Q (o :: rest) a w := by
  obtain ⟨i0, hi, hz0, hz1, hz2⟩ := info_parts A_info
  obtain ⟨p, c, rfl, hlc, hb, h4⟩ := hu
  cases p with
  | none =>
    have hl0 : m = [] := by
      cases m with
      | nil => rfl
      | cons x r => obtain ⟨_, _, h, _⟩ := h4 (by simp); cases h
    subst hl0
    have hv : ∃ q n c, v = .slice q n c ∧ n ≤ c ∧ (q = none → n = 0 ∧ c = 0) := by
      obtain ⟨_, h2⟩ := hown
      rcases h2 with ⟨rfl, _⟩ | ⟨g, cap, cur, rfl, _, _, hn, _⟩
      · exact ⟨none, 0, 0, rfl, Nat.le_refl _, fun _ => ⟨rfl, rfl⟩⟩
      · exact ⟨_, _, _, rfl, hn, fun h => by cases h⟩
    obtain ⟨q, n, cq, rfl, hn, hq⟩ := hv
    refine wpList_plain hgd fun K hK => ?_
    unfold Oper.wp execOp
    simp only [ho, resolve, invoke, builtin, Sem.run_bind, Sem.run_pure, Result.andThen_ok, List.map_toArray, List.map_cons, List.map_nil, hs, hx, List.length_nil, append_any_nil _ q n cq c w hn hq]
    exact hK _ _ (h _ _ (by rw [List.append_nil]; exact hown) hT)
  | some ad =>
    refine wpList_append_own w hgd s x 24 ho w0.heap.size 5 i0 (.int .u8 0) 1 1 bytes_ty hi hz0 hz1 hz2 rfl (by decide) _ _ _ hs hown ad m.length c (nb m) hx (by rw [nb_length, Nat.mul_one]) ?_ (fun u hu => by obtain ⟨x, _, rfl⟩ := List.mem_map.1 hu; rfl) (by unfold maxLen; omega) (by omega) hT.size ?_
    · intro j u hu
      obtain ⟨hj, rfl⟩ := nb_ne hu
      obtain ⟨b, o, h5, h6, h7⟩ := h4 (by intro e; subst e; simp at hj)
      cases h5
      have hadd : (⟨b, o, none⟩ : Addr).add j = ⟨b, o + j, none⟩ := by unfold Addr.add; split <;> simp_all
      rw [hadd]; exact h7 j hj
    · intro v' w' hown' hgrow _
      refine h v' w' ?_ ⟨hgrow.os.trans hT.os, hgrow.tape.trans hT.tape, hgrow.output.trans hT.output, Nat.le_trans hT.size hgrow.size, fun k hk _ => (hgrow.block k (Nat.lt_of_lt_of_le hk hT.size) (fun e => ?_)).trans (hT.block k hk (by simp))⟩
      · have e : nb (l ++ m) = nb l ++ nb m := by simp [nb]
        rw [e, List.length_append]; exact hown'
      · have := (hown.lt k e.symm).1; omega
theorem own_nil (w w0 : World) : w.ownsRow w0.heap.size 5 1 (.slice none 0 0) ([] : List Nat).length (nb []) := ⟨rfl, .inl ⟨rfl, rfl⟩⟩
/-- A slice of these bytes in memory that the call made. -/
def RdF (w w' : World) (u : Value) (l : List Nat) : Prop := ∀ X, (∀ x ∈ X, x < w.heap.size) → RdA X w' u l
theorem RdB.rdA' {w : World} (h : RdB w (.slice none 0 0) []) (X : List Nat) : RdA X w (.slice none 0 0) [] := ⟨none, 0, rfl, Nat.le_refl _, by simp, fun h => absurd rfl h⟩
theorem RdF.own {w w' : World} {v : Value} {l : List Nat} (h : w'.ownsRow w.heap.size 5 1 v l.length (nb l)) (hl : ∀ x ∈ l, x < 256) : RdF w w' v l := by
  intro X hX
  obtain ⟨h1, h2⟩ := h
  rcases h2 with ⟨rfl, h0⟩ | ⟨g, cap, cur, rfl, hg, hb, hn, _, hcs, htk⟩
  · have : l = [] := List.length_eq_zero_iff.1 h0
    subst this
    exact (RdB.nil w').rdA' X
  · refine ⟨some ⟨g, 0, none⟩, cap, rfl, hn, hl, fun _ => ⟨g, 0, rfl, (Array.getElem?_eq_some_iff.1 hb).1, fun hm => by have := hX _ hm; omega, fun i hi => ?_⟩⟩
    have hB : Blk w' g 5 cur := hb
    rw [Nat.zero_add, hB.cell (v := .int .u8 ((l.getD i 0 : Nat) : Int))]
    have e := congrArg (fun x => x[i]?) htk
    simp only [Nat.mul_one, List.getElem?_take, hi, if_true, nb_get hi] at e
    simpa using e
theorem arr_from (b k : Nat) (hk : k ≤ 32) : ∃ p', (∀ w, (Instr.sliceAt 23 (.pointer (some ⟨b, 0, none⟩)) (some (.int .i64 (k : Int))) none none).run Tryd.prog w = .ok (.slice p' (32 - k) (32 - k)) w) ∧ (k < 32 → p' = some ⟨b, k, none⟩) := by
  have h1 : (0 : Int) ≤ (k : Int) := by omega
  have h2 : (k : Int) ≤ 32 := by omega
  by_cases h : k = 32
  · subst h
    exact ⟨some ⟨b, 0, none⟩, fun w => by go_simp, fun h => by omega⟩
  · have h3 : ¬ 32 = k := fun e => h e.symm
    have h4 : ¬ 32 - k = 0 := by omega
    refine ⟨some ⟨b, k, none⟩, fun w => ?_, fun _ => rfl⟩
    go_simp
theorem RdA.fromWord {X : List Nat} {w : World} {b k : Nat} {t : TypeId} {W : List Nat} {p' : Option Addr} (h : Blk w b t (wv W)) (hn : W.length = 32) (hl : ∀ x ∈ W, x < 256) (hb : b ∉ X) (hk : k ≤ 32) (hp : k < 32 → p' = some ⟨b, k, none⟩) : RdA X w (.slice p' (32 - k) (32 - k)) (W.drop k) :=
  ⟨_, _, by rw [List.length_drop, hn], by rw [List.length_drop]; omega, fun x hx => hl x (List.mem_of_mem_drop hx), fun hne => by
    have hk2 : k < 32 := by
      rcases Nat.lt_or_ge k 32 with h | h
      · exact h
      · exact absurd (List.drop_eq_nil_of_le (by omega)) hne
    refine ⟨b, k, hp hk2, h.lt, hb, fun i hi => ?_⟩
    rw [List.length_drop] at hi
    rw [h.cell (bc_get (by omega))]
    simp⟩
set_option maxHeartbeats 2000000 in
set_option maxRecDepth 100000 in
theorem refBig_any (W : List Nat) (w : World) (hn : W.length = 32) (hl : ∀ x ∈ W, x < 256) : Calls Tryd.prog 14 #[.agg (wv W)] w (BytesPost [] (stripZ W) w) := by
  obtain ⟨f0, f1, f2, hty, _⟩ := item_ty
  have hS := St.start w
  have HN := Lib.hid (And.intro hn hl)
  clear hn hl
  go_enter Tryd.func14, Tryd.ntmps14
  go_wp2_with (first
    | (refine st_box (L := []) hS rfl 23 _ rfl rfl ?_; clear hS; intro w1 b1 hS)
    | (refine st_new (L := [(b1, 23, wv W)]) hS rfl 27 rfl itemN_zero ?_; clear hS; intro w2 b2 hS))
  have HS := Lib.hid hS
  clear hS
  go_loopw [3] (fun i wr => ∃ k : Nat, i = .int .i64 (k : Int) ∧ k ≤ 32 ∧ w2 = wr ∧ Hid (∀ i, i < k → W.getD i 0 = 0)) (fun i _ => 32 - (intOf i).toNat)
  case atStart => exact ⟨0, rfl, by omega, by first | trivial | rfl, Lib.hid (fun i hi => by omega)⟩
  case round =>
    obtain ⟨k, rfl, hk, rfl, HZ⟩ := hrel
    have fin : Hid (∀ (q : Nat), True → True) := Lib.hid (fun _ h => h)
    by_cases hlt : k < 32
    · have e1 : (k : Int) < 32 := by omega
      have e0 : (0 : Int) ≤ (k : Int) := by omega
      have hcl := (HS.out.get (.tail .head)).cell (bc_get (f := fun i => W.getD i 0) hlt)
      obtain ⟨x, hx⟩ : ∃ x, x = W.getD k 0 := ⟨_, rfl⟩
      rw [← hx] at hcl
      have HX := Lib.hid hx
      clear hx
      by_cases hx0 : x = 0
      · subst hx0
        go_wp2
        go_roundw
        case rel => exact ⟨k + 1, by go_num, hlt, by first | trivial | rfl, Lib.hid (fun i hi => by
          rcases Nat.lt_or_ge i k with h | h
          · exact HZ.out i h
          · rw [show i = k by omega, ← HX.out])⟩
        case measure => simp [intOf]; omega
      · have e2 : ((x : Int) == 0) = false := by rw [beq_eq_false_iff_ne]; omega
        have e3 : ¬ (x : Int) = 0 := by omega
        have HST := Lib.hid (strip_drop W k HZ.out (by have := HN.out.1; omega) (.inr (by rw [← HX.out]; exact hx0)))
        clear hx0
        go_upto_region 4 with (fail)
        obtain ⟨p', hp1, hp2⟩ := arr_from b1 k (by omega)
        have HP := Lib.hid hp1
        have hsrc := RdA.fromWord (X := []) (HS.out.get (.tail .head)) HN.out.1 HN.out.2 (by simp) (show k ≤ 32 by omega) hp2
        rw [← HST.out] at hsrc
        have HSRC := Lib.hid hsrc
        have hS := HS.out
        have HLS := Lib.hid (show (stripZ W).length ≤ 32 by rw [HST.out, List.length_drop]; have := HN.out.1; omega)
        clear hsrc hp1 hp2
        go_wp2_with (first
          | (refine st_fromN (v := .pointer (some ⟨b1, 0, none⟩)) (l := .int .i64 (k : Int)) (r := .slice p' (32 - k) (32 - k)) rfl 23 _ _ (by rfl) (by rfl) (by rfl) HP.out ?_)
          | (at_builtin; go_must (refine st_appB (w0 := w2) (v := .slice none 0 0) (l := []) (m := stripZ W) (ty := 5) rfl _ _ rfl rfl rfl (own_nil _ _) (Tch.refl _ _) HSRC.out.rdB (by have := HLS.out; simp; omega) ?_; intro v5 w5 hown5 hT5; have HR5 := Lib.hid ((RdF.own hown5 (fun x hx => HSRC.out.lt x hx)) [b2] (by have := (HS.out.get .head).lt; simpa using this)); replace hS := hS.call hT5; clear hown5))
          | (go_at_call 23; go_must (refine (refBytes_any [b2] _ _ _ HR5.out).mono ?_; rintro e w6 ⟨hT6, p6, n6, c6, rfl, hr6⟩; replace hS := hS.call hT6; have HR6 := Lib.hid hr6; clear hr6))
          | (refine arm_store (b := b2) (c := #[.bool false, .slice p6 n6 c6, .slice none 0 0]) (w' := w6.setRow b2 #[.bool false, .slice p6 n6 c6, .slice none 0 0]) rfl 27 _ _ rfl rfl rfl ((hS.get .head).store itemN_size (by rfl) (by rfl) (oneN3 rfl rfl rfl)) ?_))
        have hO := Only.setRow w6 b2 #[.bool false, .slice p6 n6 c6, .slice none 0 0]
        have hS4 := hS.upd .head hO ((hS.get .head).row _)
        refine post_cell 2 27 rfl rfl rfl (hS4.get .head) hty rfl itemN_size rfl ?_
        exact ⟨hS4.frame, _, _, _, rfl, ((HR6.out.tch ((Tch.refl [b2] w6).only hO (.inr (by simp)))).mono (by simp))⟩
    · obtain rfl : k = 32 := by omega
      have HST := Lib.hid (strip_drop W 32 HZ.out (by have := HN.out.1; omega) (.inl HN.out.1.symm))
      go_upto_region 4 with (fail)
      obtain ⟨p', hp1, hp2⟩ := arr_from b1 32 (by omega)
      have HP := Lib.hid hp1
      have hsrc := RdA.fromWord (X := []) (HS.out.get (.tail .head)) HN.out.1 HN.out.2 (by simp) (show 32 ≤ 32 by omega) hp2
      rw [← HST.out] at hsrc
      have HSRC := Lib.hid hsrc
      have hS := HS.out
      have HLS := Lib.hid (show (stripZ W).length ≤ 32 by rw [HST.out, List.length_drop]; have := HN.out.1; omega)
      clear hsrc hp1 hp2
      go_wp2_with (first
        | (refine st_fromN (v := .pointer (some ⟨b1, 0, none⟩)) (l := .int .i64 32) (r := .slice p' (32 - 32) (32 - 32)) rfl 23 _ _ (by rfl) (by rfl) (by rfl) HP.out ?_)
        | (at_builtin; go_must (refine st_appB (w0 := w2) (v := .slice none 0 0) (l := []) (m := stripZ W) (ty := 5) rfl _ _ rfl rfl rfl (own_nil _ _) (Tch.refl _ _) HSRC.out.rdB (by have := HLS.out; simp; omega) ?_; intro v5 w5 hown5 hT5; have HR5 := Lib.hid ((RdF.own hown5 (fun x hx => HSRC.out.lt x hx)) [b2] (by have := (HS.out.get .head).lt; simpa using this)); replace hS := hS.call hT5; clear hown5))
        | (go_at_call 23; go_must (refine (refBytes_any [b2] _ _ _ HR5.out).mono ?_; rintro e w6 ⟨hT6, p6, n6, c6, rfl, hr6⟩; replace hS := hS.call hT6; have HR6 := Lib.hid hr6; clear hr6))
        | (refine arm_store (b := b2) (c := #[.bool false, .slice p6 n6 c6, .slice none 0 0]) (w' := w6.setRow b2 #[.bool false, .slice p6 n6 c6, .slice none 0 0]) rfl 27 _ _ rfl rfl rfl ((hS.get .head).store itemN_size (by rfl) (by rfl) (oneN3 rfl rfl rfl)) ?_))
      have hO := Only.setRow w6 b2 #[.bool false, .slice p6 n6 c6, .slice none 0 0]
      have hS4 := hS.upd .head hO ((hS.get .head).row _)
      refine post_cell 2 27 rfl rfl rfl (hS4.get .head) hty rfl itemN_size rfl ?_
      exact ⟨hS4.frame, _, _, _, rfl, ((HR6.out.tch ((Tch.refl [b2] w6).only hO (.inr (by simp)))).mono (by simp))⟩
end Go.Proofs.YtjlhnjnoigjjfaaDoor
