/- The document's Big. -/
import Derived.Test.YtdjhjgockgmbkaaGreatDoorM06
import Derived.Maps.AppendAt
set_option linter.unusedVariables false
set_option linter.unusedSimpArgs false
namespace Go.Proofs.YtdjhjgockgmbkaaGreatDoor
open Go.RowKit

theorem arr_from (b k : Nat) (hk : k ≤ 32) : ∃ p', (∀ w, (Instr.sliceAt 23 (.pointer (some ⟨b, 0, none⟩)) (some (.int .i64 (k : Int))) none none).run Tryz.prog w = .ok (.slice p' (32 - k) (32 - k)) w) ∧ (k < 32 → p' = some ⟨b, k, none⟩) := by
  have h1 : (0 : Int) ≤ (k : Int) := by omega
  have h2 : (k : Int) ≤ 32 := by omega
  by_cases h : k = 32
  · subst h
    exact ⟨some ⟨b, 0, none⟩, fun w => by go_simp, fun h => by omega⟩
  · have h3 : ¬ 32 = k := fun e => h e.symm
    have h4 : ¬ 32 - k = 0 := by omega
    refine ⟨some ⟨b, k, none⟩, fun w => ?_, fun _ => rfl⟩
    go_simp
theorem RdA.fromWord {X : List Nat} {w : World} {b k : Nat} {t : TypeId} {W : List Nat} {p' : Option Addr} (h : Blk w b t (wv W)) (hn : W.length = 32) (hl : ∀ x ∈ W, x < 256) (hb : b ∉ X) (hk : k ≤ 32) (hp : k < 32 → p' = some ⟨b, k, none⟩) : RdA X w (.slice p' (32 - k) (32 - k)) (W.drop k) :=
  ⟨_, _, by rw [List.length_drop, hn], by rw [List.length_drop]; omega, fun x hx => hl x (List.mem_of_mem_drop hx), fun hne => by
    have hk2 : k < 32 := by
      rcases Nat.lt_or_ge k 32 with h | h
      · exact h
      · exact absurd (List.drop_eq_nil_of_le (by omega)) hne
    refine ⟨b, k, hp hk2, h.lt, hb, fun i hi => ?_⟩
    rw [List.length_drop] at hi
    rw [h.cell (bc_get (by omega))]
    simp⟩
set_option maxHeartbeats 2000000 in
set_option maxRecDepth 100000 in
theorem refBig_any (W : List Nat) (w : World) (hn : W.length = 32) (hl : ∀ x ∈ W, x < 256) : Calls Tryz.prog 30 #[.agg (wv W)] w (BytesPost [] (stripZ W) w) := by
  obtain ⟨f0, f1, f2, hty, _⟩ := item_ty
  have hS := St.start w
  have HN := Lib.hid (And.intro hn hl)
  clear hn hl
  go_enter Tryz.func30, Tryz.ntmps30
  go_wp2_with (first
    | (refine st_box (L := []) hS rfl 23 _ rfl rfl ?_; clear hS; intro w1 b1 hS)
    | (refine st_new (L := [(b1, 23, wv W)]) hS rfl 68 rfl itemN_zero ?_; clear hS; intro w2 b2 hS))
  have HS := Lib.hid hS
  clear hS
  go_loopw [3] (fun i wr => ∃ k : Nat, i = .int .i64 (k : Int) ∧ k ≤ 32 ∧ w2 = wr ∧ Hid (∀ i, i < k → W.getD i 0 = 0)) (fun i _ => 32 - (intOf i).toNat)
  case atStart => exact ⟨0, rfl, by omega, by first | trivial | rfl, Lib.hid (fun i hi => by omega)⟩
  case round =>
    obtain ⟨k, rfl, hk, rfl, HZ⟩ := hrel
    have fin : Hid (∀ (q : Nat), True → True) := Lib.hid (fun _ h => h)
    by_cases hlt : k < 32
    · have e1 : (k : Int) < 32 := by omega
      have e0 : (0 : Int) ≤ (k : Int) := by omega
      have hcl := (HS.out.get (.tail .head)).cell (bc_get (f := fun i => W.getD i 0) hlt)
      obtain ⟨x, hx⟩ : ∃ x, x = W.getD k 0 := ⟨_, rfl⟩
      rw [← hx] at hcl
      have HX := Lib.hid hx
      clear hx
      by_cases hx0 : x = 0
      · subst hx0
        go_wp2
        go_roundw
        case rel => exact ⟨k + 1, by go_num, hlt, by first | trivial | rfl, Lib.hid (fun i hi => by
          rcases Nat.lt_or_ge i k with h | h
          · exact HZ.out i h
          · rw [show i = k by omega, ← HX.out])⟩
        case measure => simp [intOf]; omega
      · have e2 : ((x : Int) == 0) = false := by rw [beq_eq_false_iff_ne]; omega
        have e3 : ¬ (x : Int) = 0 := by omega
        have HST := Lib.hid (strip_drop W k HZ.out (by have := HN.out.1; omega) (.inr (by rw [← HX.out]; exact hx0)))
        clear hx0
        go_upto_region 4 with (fail)
        obtain ⟨p', hp1, hp2⟩ := arr_from b1 k (by omega)
        have HP := Lib.hid hp1
        have hsrc := RdA.fromWord (X := []) (HS.out.get (.tail .head)) HN.out.1 HN.out.2 (by simp) (show k ≤ 32 by omega) hp2
        rw [← HST.out] at hsrc
        have HSRC := Lib.hid hsrc
        have hS := HS.out
        have HLS := Lib.hid (show (stripZ W).length ≤ 32 by rw [HST.out, List.length_drop]; have := HN.out.1; omega)
        clear hsrc hp1 hp2
        go_wp2_with (first
          | (refine st_fromN (v := .pointer (some ⟨b1, 0, none⟩)) (l := .int .i64 (k : Int)) (r := .slice p' (32 - k) (32 - k)) rfl 23 _ _ (by rfl) (by rfl) (by rfl) HP.out ?_)
          | (at_builtin; go_must (refine st_appB (w0 := w2) (v := .slice none 0 0) (l := []) (m := stripZ W) (ty := 5) rfl _ _ rfl rfl rfl (own_nil _ _) (Tch.refl _ _) HSRC.out.rdB (by have := HLS.out; simp; omega) ?_; intro v5 w5 hown5 hT5; have HR5 := Lib.hid ((RdF.own hown5 (fun x hx => HSRC.out.lt x hx)) [b2] (by have := (HS.out.get .head).lt; simpa using this)); replace hS := hS.call hT5; clear hown5))
          | (go_at_call 31; go_must (refine (refBytes_any [b2] _ _ _ HR5.out).mono ?_; rintro e w6 ⟨hT6, p6, n6, c6, rfl, hr6⟩; replace hS := hS.call hT6; have HR6 := Lib.hid hr6; clear hr6))
          | (refine arm_store (b := b2) (c := #[.bool false, .slice p6 n6 c6, .slice none 0 0]) (w' := w6.setRow b2 #[.bool false, .slice p6 n6 c6, .slice none 0 0]) rfl 68 _ _ rfl rfl rfl ((hS.get .head).store itemN_size (by rfl) (by rfl) (oneN3 rfl rfl rfl)) ?_))
        have hO := Only.setRow w6 b2 #[.bool false, .slice p6 n6 c6, .slice none 0 0]
        have hS4 := hS.upd .head hO ((hS.get .head).row _)
        refine post_cell 2 68 rfl rfl rfl (hS4.get .head) hty rfl itemN_size rfl ?_
        exact ⟨hS4.frame, _, _, _, rfl, ((HR6.out.tch ((Tch.refl [b2] w6).only hO (.inr (by simp)))).mono (by simp))⟩
    · obtain rfl : k = 32 := by omega
      have HST := Lib.hid (strip_drop W 32 HZ.out (by have := HN.out.1; omega) (.inl HN.out.1.symm))
      go_upto_region 4 with (fail)
      obtain ⟨p', hp1, hp2⟩ := arr_from b1 32 (by omega)
      have HP := Lib.hid hp1
      have hsrc := RdA.fromWord (X := []) (HS.out.get (.tail .head)) HN.out.1 HN.out.2 (by simp) (show 32 ≤ 32 by omega) hp2
      rw [← HST.out] at hsrc
      have HSRC := Lib.hid hsrc
      have hS := HS.out
      have HLS := Lib.hid (show (stripZ W).length ≤ 32 by rw [HST.out, List.length_drop]; have := HN.out.1; omega)
      clear hsrc hp1 hp2
      go_wp2_with (first
        | (refine st_fromN (v := .pointer (some ⟨b1, 0, none⟩)) (l := .int .i64 32) (r := .slice p' (32 - 32) (32 - 32)) rfl 23 _ _ (by rfl) (by rfl) (by rfl) HP.out ?_)
        | (at_builtin; go_must (refine st_appB (w0 := w2) (v := .slice none 0 0) (l := []) (m := stripZ W) (ty := 5) rfl _ _ rfl rfl rfl (own_nil _ _) (Tch.refl _ _) HSRC.out.rdB (by have := HLS.out; simp; omega) ?_; intro v5 w5 hown5 hT5; have HR5 := Lib.hid ((RdF.own hown5 (fun x hx => HSRC.out.lt x hx)) [b2] (by have := (HS.out.get .head).lt; simpa using this)); replace hS := hS.call hT5; clear hown5))
        | (go_at_call 31; go_must (refine (refBytes_any [b2] _ _ _ HR5.out).mono ?_; rintro e w6 ⟨hT6, p6, n6, c6, rfl, hr6⟩; replace hS := hS.call hT6; have HR6 := Lib.hid hr6; clear hr6))
        | (refine arm_store (b := b2) (c := #[.bool false, .slice p6 n6 c6, .slice none 0 0]) (w' := w6.setRow b2 #[.bool false, .slice p6 n6 c6, .slice none 0 0]) rfl 68 _ _ rfl rfl rfl ((hS.get .head).store itemN_size (by rfl) (by rfl) (oneN3 rfl rfl rfl)) ?_))
      have hO := Only.setRow w6 b2 #[.bool false, .slice p6 n6 c6, .slice none 0 0]
      have hS4 := hS.upd .head hO ((hS.get .head).row _)
      refine post_cell 2 68 rfl rfl rfl (hS4.get .head) hty rfl itemN_size rfl ?_
      exact ⟨hS4.frame, _, _, _, rfl, ((HR6.out.tch ((Tch.refl [b2] w6).only hO (.inr (by simp)))).mono (by simp))⟩
end Go.Proofs.YtdjhjgockgmbkaaGreatDoor

/- The document's Deep. -/
namespace Go.Proofs.YtdjhjgockgmbkaaGreatDoor
open Go.RowKit
set_option maxRecDepth 100000

/-- How deep, at most one more than so many. -/
def deepN (most d : Nat) : Nat := if d ≤ most then d else most + 1
theorem deepN_max (j a b : Nat) : deepN j (max a b) = max (deepN j a) (deepN j b) := by
  unfold deepN
  repeat' split
  all_goals omega
theorem deepN_succ (j d : Nat) : deepN j d + 1 = deepN (j + 1) (d + 1) := by
  unfold deepN
  repeat' split
  all_goals omega
theorem deepN_le (j d : Nat) : deepN j d ≤ j + 1 := by unfold deepN; split <;> omega
theorem deps_succ {l : List It} {k : Nat} (h : k < l.length) : deps (l.take (k + 1)) = max (deps (l.take k)) (dep l[k]) := by
  rw [List.take_succ_eq_append_getElem h, deps_append]
  simp [deps]
def DeepOK (k : Nat) : Prop := ∀ (y0 yb yl : Value) (it : It) (most : Nat) (w : World), ItC [] w k y0 yb yl it → most ≤ 32 → Calls Tryz.prog 61 #[.agg #[y0, yb, yl], .int .i64 (most : Int)] w fun e w' => e = .returned (.int .i64 ((deepN most (dep it) : Nat) : Int)) ∧ Tch [] w w'
set_option maxHeartbeats 2000000 in
set_option maxRecDepth 100000 in
theorem deep_step (k : Nat) (ih : DeepOK k) : DeepOK (k + 1) := by
  intro y0 yb yl it most w hit hm32
  have hS := St.start w
  have HI := Lib.hid ih
  clear ih
  cases it with
  | str l =>
    unfold ItC at hit
    obtain ⟨rfl, _⟩ := hit
    rw [dep_str]
    go_enter Tryz.func61, Tryz.ntmps61
    go_wp2_with (refine st_box (L := []) hS rfl 68 _ rfl rfl ?_; clear hS; intro w0 b0 hS; have d0 := (hS.get .head).cell (j := 0) rfl)
    go_ret
    exact ⟨rfl, hS.frame⟩
  | lst its =>
    unfold ItC at hit
    obtain ⟨rfl, p, c, rfl, ⟨hcc, hll⟩, hcells⟩ := hit
    rw [dep_lst]
    by_cases hm0 : most = 0
    · subst hm0
      have e0 : deepN 0 (deps its + 1) = 1 := by unfold deepN; rw [if_neg (by omega)]
      rw [e0]
      clear hcells
      go_enter Tryz.func61, Tryz.ntmps61
      go_wp2_with (refine st_box (L := []) hS rfl 68 _ rfl rfl ?_; clear hS; intro w0 b0 hS; have d0 := (hS.get .head).cell (j := 0) rfl)
      go_ret
      exact ⟨rfl, hS.frame⟩
    · obtain ⟨j, hj⟩ : ∃ j, most = j + 1 := ⟨most - 1, by omega⟩
      obtain ⟨n, hn⟩ : ∃ n, n = its.length := ⟨_, rfl⟩
      rw [← hn] at hcc hll ⊢
      have HL := Lib.hid hn
      have HC := Lib.hid hcells
      have hj1 : ((most : Int) == 0) = false := by rw [beq_eq_false_iff_ne]; omega
      have hsub : (most : Int) - 1 = (j : Int) := by omega
      have hj32 : j ≤ 32 := by omega
      have HDN := Lib.hid (show deepN most (deps its + 1) = deepN j (deps its) + 1 by rw [hj, deepN_succ])
      rw [HDN.out]
      clear hcells hn hj
      go_enter Tryz.func61, Tryz.ntmps61
      go_wp2_with (refine st_box (L := []) hS rfl 68 _ rfl rfl ?_; clear hS; intro w0 b0 hS; have d0 := (hS.get .head).cell (j := 0) rfl; have d2 := (hS.get .head).cell (j := 2) rfl)
      clear d0 d2
      go_loopw [5, 6] (fun nv i wr => ∃ m q : Nat, i = .int .i64 (m : Int) ∧ nv = .int .i64 (q : Int) ∧ m ≤ n ∧ q ≤ 33 ∧ St [] w wr [(b0, 68, #[.bool true, yb, .slice p n c])] ∧ Hid (q = deepN j (deps (its.take m)))) (fun _ i _ => n - (intOf i).toNat)
      case atStart => exact ⟨0, 0, rfl, rfl, Nat.zero_le _, by omega, hS, Lib.hid (by simp [deps, deepN])⟩
      case round =>
        clear hS
        obtain ⟨m, q, rfl, rfl, hm, hq33, hS, HA⟩ := hrel
        have d2 := (hS.get .head).cell (j := 2) rfl
        by_cases hlt : m < n
        · have e1 : (m : Int) < (n : Int) := by omega
          have hml : m < its.length := by have := HL.out; omega
          obtain ⟨b, o, rfl, hbw, hbX, hcs⟩ := HC.out (by intro e; subst e; simp at hml)
          obtain ⟨z0, zb, zl, g0, g1, g2, hz⟩ := hcs m hml
          have hT := hS.frame
          have f0 := (hT.cell (p := ⟨b, o + m * 3, none⟩) hbw (by simp)).trans g0
          have f1 := (hT.cell (p := ⟨b, o + m * 3 + 1, none⟩) hbw (by simp)).trans g1
          have f2 := (hT.cell (p := ⟨b, o + m * 3 + 2, none⟩) hbw (by simp)).trans g2
          obtain ⟨dm, hdm⟩ : ∃ dm, dm = deepN j (dep its[m]) := ⟨_, rfl⟩
          have hd33 : dm ≤ 33 := by have := deepN_le j (dep its[m]); omega
          have hcall := HI.out z0 zb zl its[m] j wr (hz.tch hT) (by omega)
          rw [← hdm] at hcall
          have HK := Lib.hid hcall
          have HST := Lib.hid (show max q dm = deepN j (deps (its.take (m + 1))) by rw [deps_succ hml, deepN_max, ← HA.out, hdm])
          clear hcs g0 g1 g2 hz hcall hdm
          by_cases hgt : q < dm
          · have e3 : (q : Int) < (dm : Int) := by omega
            go_wp2_with (go_at_call 61; (with_reducible refine HK.out.mono ?_); rintro e w3 ⟨rfl, hT3⟩; replace hS := hS.call hT3)
            go_roundw
            case rel => exact ⟨m + 1, dm, by go_num, rfl, hlt, hd33, hS, Lib.hid (by rw [← HST.out]; omega)⟩
            case measure => simp [intOf]; omega
          · have e3 : ¬ (q : Int) < (dm : Int) := by omega
            go_wp2_with (go_at_call 61; (with_reducible refine HK.out.mono ?_); rintro e w3 ⟨rfl, hT3⟩; replace hS := hS.call hT3)
            go_roundw
            case rel => exact ⟨m + 1, q, by go_num, rfl, hlt, hq33, hS, Lib.hid (by rw [← HST.out]; omega)⟩
            case measure => simp [intOf]; omega
        · have e1 : ¬ (m : Int) < (n : Int) := by omega
          have HE := Lib.hid (show q = deepN j (deps its) by have := HA.out; rwa [List.take_of_length_le (by have := HL.out; omega)] at this)
          go_wp2
          go_ret
          rw [← HE.out]
          exact ⟨rfl, hS.frame⟩
theorem deep_any : ∀ k, DeepOK k
  | 0 => fun _ _ _ _ _ _ h => h.elim
  | k + 1 => deep_step k (deep_any k)
end Go.Proofs.YtdjhjgockgmbkaaGreatDoor

/- What bytes are as a tree: parse, parseList. -/
namespace Go.Proofs.YtdjhjgockgmbkaaGreatDoor
open Go.RowKit

/-- A row of pieces that the call made. -/
def PRow (X : List Nat) (B k : Nat) (w : World) (v : Value) (ts : List It) : Prop :=
  ∃ us, w.ownsRow B 114 1 v ts.length us ∧ ∀ i (h : i < ts.length), ∃ u, us[i]? = some u ∧ PcV (v.ownBlock.toList ++ X) w k u ts[i]
theorem Tch.grownBy {w w' : World} (h : Tch [] w w') : w.grownBy w' none := ⟨h.os, h.tape, h.output, h.size, fun k hk _ => h.block k hk (by simp)⟩
theorem PRow.call {X : List Nat} {B k : Nat} {w w' : World} {v : Value} {ts : List It} (h : PRow X B k w v ts) (hT : Tch [] w w') : PRow X B k w' v ts := by
  obtain ⟨us, h1, h2⟩ := h
  refine ⟨us, h1.kept hT.grownBy (by cases v.ownBlock <;> simp), fun i hi => ?_⟩
  obtain ⟨u, h3, h4⟩ := h2 i hi
  exact ⟨u, h3, h4.tch (hT.mono (by simp))⟩
theorem tch_grown {X : List Nat} {w w' : World} {row : Option Nat} (h : w.grownBy w' row) : Tch (row.toList ++ X) w w' :=
  ⟨h.os, h.tape, h.output, h.size, fun k hk hm => h.block k hk (fun e => hm (by rw [← e]; simp))⟩
theorem PcV.one {X : List Nat} {w : World} {k : Nat} {v : Value} {t : It} (h : PcV X w k v t) : v.oneCell' = true := by
  obtain ⟨T, u, rfl⟩ := h.iface; rfl
/-- A piece more. -/
theorem st_appendP {ops : Array Oper} {rest : List Oper} {o : Oper} {a : Act} {w0 w : World} {Q : Exit → Act → World → Prop} {X : List Nat} {k : Nat} {v u : Value} {ts : List It} {t : It} {ty : TypeId} (hgd : o.guard = none) (s x : Operand)
    (ho : o.op = .call { callee := .builtin .append, args := #[s, x], argTypes := #[167, 167] }) (hs : a.eval s = v) (hx : a.eval x = .slice (some ⟨w.heap.size, 0, none⟩) 1 1)
    (hR : PRow X w0.heap.size k w v ts) (hu : PcV (v.ownBlock.toList ++ X) w k u t) (hT : Tch [] w0 w) (hlen : ts.length ≤ 100000000)
    (h : ∀ v' w', PRow X w0.heap.size k w' v' (ts ++ [t]) → Tch [] w0 w' → (∀ y q, RdA (v.ownBlock.toList ++ X) w y q → RdA (v'.ownBlock.toList ++ X) w' y q) → wpList Tryz.prog ops Q rest (a.put o.dst v') w') :
    wpList Tryz.prog ops Q (o :: rest) a (w.alloc (.cells #[u] ty)) := by
  obtain ⟨us, hown, hps⟩ := hR
  obtain ⟨i0, hi, hz0, hz1, hz2⟩ := info_parts piece_info
  refine wpList_append_own_at (w := w.alloc (.cells #[u] ty)) hgd s x 167 ho w0.heap.size 114 i0 .nilIface 1 16 list_ty hi hz0 hz1 hz2 rfl (by decide) v ts.length us hs (hown.alloc _) ⟨w.heap.size, 0, none⟩ 1 1 [u] hx rfl (cell_one_new w u ty) (fun y hy => by simp at hy; subst hy; exact hu.one) (by unfold maxLen; omega) (by omega) (by have := hT.size; simp; omega) ?_
  intro v' w' hown' hgrow _ hv'
  have hlt := hown.lt
  have hlen' : us.length = ts.length := by have := hown.1; omega
  have hTg : Tch (v.ownBlock.toList ++ (v'.ownBlock.toList ++ X)) w w' := ((Tch.refl _ _).alloc _).trans (tch_grown hgrow)
  have hm1 : ∀ y ∈ v.ownBlock.toList ++ (v'.ownBlock.toList ++ X), y ∈ v.ownBlock.toList ++ X ∨ w.heap.size ≤ y := by
    intro y hy
    rcases List.mem_append.1 hy with hy | hy
    · exact .inl (List.mem_append_left _ hy)
    rcases List.mem_append.1 hy with hy | hy
    · rcases hv' with e | e
      · rw [e] at hy; exact .inl (List.mem_append_left _ hy)
      · rw [e] at hy; simp at hy; subst hy; exact .inr (by omega)
    · exact .inl (List.mem_append_right _ hy)
  have hm2 : ∀ {W : World}, ∀ y ∈ v'.ownBlock.toList ++ X, y ∈ v.ownBlock.toList ++ (v'.ownBlock.toList ++ X) ∨ W.heap.size ≤ y := fun y hy => .inl (List.mem_append_right _ hy)
  refine h v' w' ⟨us ++ [u], by rw [List.length_append]; exact hown', fun i hi => ?_⟩ ?_ (fun y q hy => ((hy.mono hm1).tch hTg).mono hm2)
  · rw [List.length_append, List.length_singleton] at hi
    by_cases hi2 : i < ts.length
    · obtain ⟨y, h1, h2⟩ := hps i hi2
      refine ⟨y, by rw [List.getElem?_append_left (by omega)]; exact h1, ?_⟩
      rw [List.getElem_append_left hi2]
      exact ((h2.mono hm1).tch hTg).mono hm2
    · obtain rfl : i = ts.length := by omega
      refine ⟨u, by rw [List.getElem?_append_right (by omega), hlen', Nat.sub_self]; rfl, ?_⟩
      rw [List.getElem_append_right (by omega)]
      simp only [Nat.sub_self, List.getElem_cons_zero]
      exact ((hu.mono hm1).tch hTg).mono hm2
  · have hTa := hT.alloc (bs := []) (.cells #[u] ty)
    exact ⟨hgrow.os.trans hTa.os, hgrow.tape.trans hTa.tape, hgrow.output.trans hTa.output, Nat.le_trans hTa.size hgrow.size, fun q hq hqb => (hgrow.block q (Nat.lt_of_lt_of_le hq hTa.size) (fun e => by have := (hlt q e.symm).1; omega)).trans (hTa.block q hq hqb)⟩
theorem decL_error {f : List Nat → Res (It × List Nat)} (hf : ∀ l c, f l = .error c → c = 3 ∨ c = 4) : ∀ (n : Nat) (l : List Nat) (c : Nat), decL f n l = .error c → c = 3 ∨ c = 4
  | 0, l, c, h => by
    unfold decL at h
    split at h
    · cases h
    · cases h; omega
  | n + 1, l, c, h => by
    unfold decL at h
    split at h
    · cases h
    · split at h
      · rename_i e he; cases h; exact hf _ _ he
      · split at h
        · rename_i e he; cases h; exact decL_error hf _ _ _ he
        · cases h
/-- What parse answers; j: how many lists may still be begun. -/
def ParsePost (X : List Nat) (j : Nat) (l : List Nat) (w : World) (e : Ending) (w' : World) : Prop :=
  Tch [] w w' ∧ match dec j l with
    | .error c => ∃ v1 v2, e = .returned (.tuple #[v1, v2, .int .i64 (c : Int)])
    | .ok (t, r) => ∃ v1 v2, e = .returned (.tuple #[v1, v2, .int .i64 0]) ∧ PcV X w' (j + 1) v1 t ∧ RdA X w' v2 r
theorem parsepost_no {X : List Nat} {j c : Nat} {l : List Nat} {w w' : World} {v1 v2 : Value} {n : Int} (h : dec j l = .error c) (hn : n = (c : Int)) (hT : Tch [] w w') : ParsePost X j l w (.returned (.tuple #[v1, v2, .int .i64 n])) w' := ⟨hT, by rw [h, hn]; exact ⟨v1, v2, rfl⟩⟩
theorem parsepost_yes {X : List Nat} {j : Nat} {l r : List Nat} {t : It} {w w' : World} {v1 v2 : Value} (h : dec j l = .ok (t, r)) (hT : Tch [] w w') (h1 : PcV X w' (j + 1) v1 t) (h2 : RdA X w' v2 r) : ParsePost X j l w (.returned (.tuple #[v1, v2, .int .i64 0])) w' := ⟨hT, by rw [h]; exact ⟨v1, v2, rfl, h1, h2⟩⟩
def ListPost (X : List Nat) (j : Nat) (l : List Nat) (w : World) (e : Ending) (w' : World) : Prop :=
  Tch [] w w' ∧ match decL (dec j) l.length l with
    | .error c => ∃ p n k, e = .returned (.tuple #[.slice p n k, .int .i64 (c : Int)])
    | .ok ts => ∃ p k, e = .returned (.tuple #[.slice p ts.length k, .int .i64 0]) ∧ PcV X w' (j + 2) (.iface 167 (.slice p ts.length k)) (.lst ts)
theorem dec_error {j c : Nat} {l : List Nat} (h : dec j l = .error c) : c = 3 ∨ c = 4 := by
  induction j generalizing l c with
  | zero =>
    rw [dec_eq] at h
    split at h
    · cases h; omega
    · split at h
      · cases h; omega
      · split at h
        · cases h
        · cases h; omega
  | succ j ih =>
    rw [dec_eq] at h
    split at h
    · cases h; omega
    · split at h
      · cases h; omega
      · split at h
        · cases h
        · split at h
          · rename_i e; cases e
          · rename_i j' e
            cases e
            split at h
            · rename_i e he
              cases h
              exact decL_error (fun l c h => ih h) _ _ _ he
            · cases h
end Go.Proofs.YtdjhjgockgmbkaaGreatDoor

/- parse, at every kind of head. -/
namespace Go.Proofs.YtdjhjgockgmbkaaGreatDoor
open Go.RowKit

def ParseOK (j : Nat) : Prop := ∀ (X : List Nat) (v : Value) (l : List Nat) (w : World) (d : Int), l.length ≤ 100000000 → (∀ x ∈ X, x < w.heap.size) → RdA X w v l → d + j = 32 → 0 ≤ d →
  Calls Tryz.prog 63 #[v, .int .i64 d] w (ParsePost X j l w)
def ListOK (j : Nat) : Prop := ∀ (X : List Nat) (v : Value) (l : List Nat) (w : World) (d : Int), l.length ≤ 100000000 → (∀ x ∈ X, x < w.heap.size) → RdA X w v l → d + j = 32 → 0 ≤ d →
  Calls Tryz.prog 91 #[v, .int .i64 d] w (ListPost X j l w)
set_option maxHeartbeats 600000 in
set_option maxRecDepth 100000 in
theorem parse_nil (X : List Nat) (v : Value) (j : Nat) (w : World) (d : Int) (hv : RdA X w v []) : Calls Tryz.prog 63 #[v, .int .i64 d] w (ParsePost X j [] w) := by
  have hdec : dec j [] = .error 4 := by rw [dec_eq, if_neg (by simp)]; rfl
  have hc := (rsplit_any X v [] w (by simp) hv).mono (R' := fun e w' => e = .returned (.tuple #[.slice none 0 0, .slice none 0 0, .bool false]) ∧ Tch [] w w') (fun e w' h => ⟨h.2, h.1⟩)
  obtain ⟨p, c, rfl, _⟩ := hv
  have HC := Lib.hid hc
  have HD := Lib.hid hdec
  clear hc hdec
  simp only [List.length_nil] at *
  go_enter Tryz.func63, Tryz.ntmps63
  go_wp2_with (go_at_call 90; refine HC.out.mono ?_; rintro e w1 ⟨rfl, hT1⟩)
  go_ret3
  exact parsepost_no HD.out rfl hT1
set_option maxHeartbeats 600000 in
set_option maxRecDepth 100000 in
theorem parse_deep (X : List Nat) (v : Value) (x : Nat) (r : List Nat) (j : Nat) (w : World) (d : Int) (hn : (x :: r).length ≤ 100000000) (hv : RdA X w v (x :: r)) (hd : d + j = 32) (hx : 192 ≤ x) (hj : j = 0) : Calls Tryz.prog 63 #[v, .int .i64 d] w (ParsePost X j (x :: r) w) := by
  obtain ⟨p, n, c, rfl⟩ := slice_keep hv
  obtain ⟨p', c', hp, _, hb, h4⟩ := id hv
  have hxb := hb x List.mem_cons_self
  cases hp
  obtain ⟨b, o, rfl, hbw, _, h8⟩ := h4 (by simp)
  have hc0 := h8 0 (by simp)
  rw [Nat.add_zero] at hc0
  simp only [List.getD_cons_zero] at hc0
  have hspl := rsplit_any X _ (x :: r) w hn hv
  have hdec : dec j (x :: r) = .error 3 := by rw [dec_eq, if_pos ⟨by simpa using hx, hj⟩]
  have HD := Lib.hid hdec
  obtain rfl : d = 32 := by omega
  have hx1 : (192 : Int) ≤ x := by omega
  clear hdec h8 h4 hv hb hspl
  simp only [List.length_cons] at *
  go_enter Tryz.func63, Tryz.ntmps63
  go_wp2
  go_ret3
  exact parsepost_no HD.out rfl (Tch.refl _ _)
set_option maxHeartbeats 600000 in
set_option maxRecDepth 100000 in
theorem parse_none_low (X : List Nat) (v : Value) (x : Nat) (r : List Nat) (j : Nat) (w : World) (d : Int) (hn : (x :: r).length ≤ 100000000) (hv : RdA X w v (x :: r)) (hd : d + j = 32) (hx : x < 192) (hs : spl (x :: r) = none) : Calls Tryz.prog 63 #[v, .int .i64 d] w (ParsePost X j (x :: r) w) := by
  obtain ⟨p, n, c, rfl⟩ := slice_keep hv
  obtain ⟨p', c', hp, _, hb, h4⟩ := id hv
  have hxb := hb x List.mem_cons_self
  cases hp
  obtain ⟨b, o, rfl, hbw, _, h8⟩ := h4 (by simp)
  have hc0 := h8 0 (by simp)
  rw [Nat.add_zero] at hc0
  simp only [List.getD_cons_zero] at hc0
  have hspl := rsplit_any X _ (x :: r) w hn hv
  have hdec : dec j (x :: r) = .error 4 := by rw [dec_eq, if_neg (by simp; omega), hs]
  have hc := hspl.mono (R' := fun e w' => e = .returned (.tuple #[.slice none 0 0, .slice none 0 0, .bool false]) ∧ Tch [] w w') (fun e w' h => by
    obtain ⟨h1, h2⟩ := h
    rw [hs] at h2
    exact ⟨h2, h1⟩)
  have HD := Lib.hid hdec
  have HC := Lib.hid hc
  have hx1 : ¬ (192 : Int) ≤ x := by omega
  clear hdec h8 h4 hv hb hspl hc hs
  simp only [List.length_cons] at *
  go_enter Tryz.func63, Tryz.ntmps63
  go_wp2_with (go_at_call 90; refine HC.out.mono ?_; rintro e w1 ⟨rfl, hT1⟩)
  go_ret3
  exact parsepost_no HD.out rfl hT1
set_option maxHeartbeats 600000 in
set_option maxRecDepth 100000 in
theorem parse_none_list (X : List Nat) (v : Value) (x : Nat) (r : List Nat) (j : Nat) (w : World) (d : Int) (hn : (x :: r).length ≤ 100000000) (hv : RdA X w v (x :: r)) (hd : d + j = 32) (hx : 192 ≤ x) (hj : 0 < j) (hs : spl (x :: r) = none) : Calls Tryz.prog 63 #[v, .int .i64 d] w (ParsePost X j (x :: r) w) := by
  obtain ⟨p, n, c, rfl⟩ := slice_keep hv
  obtain ⟨p', c', hp, _, hb, h4⟩ := id hv
  have hxb := hb x List.mem_cons_self
  cases hp
  obtain ⟨b, o, rfl, hbw, _, h8⟩ := h4 (by simp)
  have hc0 := h8 0 (by simp)
  rw [Nat.add_zero] at hc0
  simp only [List.getD_cons_zero] at hc0
  have hspl := rsplit_any X _ (x :: r) w hn hv
  have hdec : dec j (x :: r) = .error 4 := by rw [dec_eq, if_neg (by simp; omega), hs]
  have hc := hspl.mono (R' := fun e w' => e = .returned (.tuple #[.slice none 0 0, .slice none 0 0, .bool false]) ∧ Tch [] w w') (fun e w' h => by
    obtain ⟨h1, h2⟩ := h
    rw [hs] at h2
    exact ⟨h2, h1⟩)
  have HD := Lib.hid hdec
  have HC := Lib.hid hc
  have hx1 : (192 : Int) ≤ x := by omega
  have hd1 : (d == 32) = false := by simp; omega
  have hd2 : ¬ d = 32 := by omega
  clear hdec h8 h4 hv hb hspl hc hs
  simp only [List.length_cons] at *
  go_enter Tryz.func63, Tryz.ntmps63
  go_wp2_with (go_at_call 90; refine HC.out.mono ?_; rintro e w1 ⟨rfl, hT1⟩)
  go_ret3
  exact parsepost_no HD.out rfl hT1
set_option maxHeartbeats 600000 in
set_option maxRecDepth 100000 in
theorem parse_single (X : List Nat) (v : Value) (x : Nat) (r : List Nat) (j : Nat) (w : World) (d : Int) (hn : (x :: r).length ≤ 100000000) (hv : RdA X w v (x :: r)) (hd : d + j = 32) (h n0 : Nat) (hx : x < 128) (hs : spl (x :: r) = some (h, n0)) : Calls Tryz.prog 63 #[v, .int .i64 d] w (ParsePost X j (x :: r) w) := by
  obtain ⟨p, n, c, rfl⟩ := slice_keep hv
  obtain ⟨p', c', hp, _, hb, h4⟩ := id hv
  have hxb := hb x List.mem_cons_self
  cases hp
  obtain ⟨b, o, rfl, hbw, _, h8⟩ := h4 (by simp)
  have hc0 := h8 0 (by simp)
  rw [Nat.add_zero] at hc0
  simp only [List.getD_cons_zero] at hc0
  have hspl := rsplit_any X _ (x :: r) w hn hv
  have hle := spl_some hs
  have hc := hspl.mono (R' := fun e w' => ∃ p1 n1 c1 p2 n2 c2, e = .returned (.tuple #[.slice p1 n1 c1, .slice p2 n2 c2, .bool true]) ∧ RdA X w' (.slice p1 n1 c1) (((x :: r).drop h).take n0) ∧ RdA X w' (.slice p2 n2 c2) ((x :: r).drop (h + n0)) ∧ Tch [] w w') (fun e w' h => by
    obtain ⟨h1, h2⟩ := h
    rw [hs] at h2
    obtain ⟨v1, v2, h3, h5, h6⟩ := h2
    obtain ⟨p1, n1, c1, rfl⟩ := slice_keep h5
    obtain ⟨p2, n2, c2, rfl⟩ := slice_keep h6
    exact ⟨p1, n1, c1, p2, n2, c2, h3, h5, h6, h1⟩)
  have HC := Lib.hid hc
  have hh : h = 0 ∧ n0 = 1 := by rw [spl_cons, if_pos hx] at hs; cases hs; exact ⟨rfl, rfl⟩
  obtain ⟨rfl, rfl⟩ := hh
  have hdec : dec j (x :: r) = .ok (.str [x], r) := by rw [dec_eq, if_neg (by simp; omega), hs]; simp only []; rw [if_pos (by simp; omega)]; rfl
  have HD := Lib.hid hdec
  have hmk := mkS
  have hx1 : ¬ (192 : Int) ≤ x := by omega
  have hx2 : (x : Int) < 128 := by omega
  clear hdec h8 h4 hv hb hspl hc hs hle
  simp only [List.length_cons] at *
  go_enter Tryz.func63, Tryz.ntmps63
  go_wp2_with (go_at_call 90; refine HC.out.mono ?_; rintro e w1 ⟨p1, n1, c1, p2, n2, c2, rfl, hv1, hv2, hT1⟩; have hc1 := (hT1.cell (p := ⟨b, o, none⟩) hbw (by simp)).trans hc0; have HV := Lib.hid (And.intro hv1 hv2); clear hv1 hv2)
  go_ret3
  refine parsepost_yes HD.out hT1 ?_ HV.out.2
  unfold PcV
  rw [if_pos (by simpa [single] using hx)]; rfl
set_option maxHeartbeats 600000 in
set_option maxRecDepth 100000 in
theorem parse_text (X : List Nat) (v : Value) (x : Nat) (r : List Nat) (j : Nat) (w : World) (d : Int) (hn : (x :: r).length ≤ 100000000) (hv : RdA X w v (x :: r)) (hd : d + j = 32) (h n0 : Nat) (hx : 128 ≤ x) (hx2 : x < 192) (hs : spl (x :: r) = some (h, n0)) : Calls Tryz.prog 63 #[v, .int .i64 d] w (ParsePost X j (x :: r) w) := by
  obtain ⟨p, n, c, rfl⟩ := slice_keep hv
  obtain ⟨p', c', hp, _, hb, h4⟩ := id hv
  have hxb := hb x List.mem_cons_self
  cases hp
  obtain ⟨b, o, rfl, hbw, _, h8⟩ := h4 (by simp)
  have hc0 := h8 0 (by simp)
  rw [Nat.add_zero] at hc0
  simp only [List.getD_cons_zero] at hc0
  have hspl := rsplit_any X _ (x :: r) w hn hv
  have hle := spl_some hs
  have hc := hspl.mono (R' := fun e w' => ∃ p1 n1 c1 p2 n2 c2, e = .returned (.tuple #[.slice p1 n1 c1, .slice p2 n2 c2, .bool true]) ∧ RdA X w' (.slice p1 n1 c1) (((x :: r).drop h).take n0) ∧ RdA X w' (.slice p2 n2 c2) ((x :: r).drop (h + n0)) ∧ Tch [] w w') (fun e w' h => by
    obtain ⟨h1, h2⟩ := h
    rw [hs] at h2
    obtain ⟨v1, v2, h3, h5, h6⟩ := h2
    obtain ⟨p1, n1, c1, rfl⟩ := slice_keep h5
    obtain ⟨p2, n2, c2, rfl⟩ := slice_keep h6
    exact ⟨p1, n1, c1, p2, n2, c2, h3, h5, h6, h1⟩)
  have HC := Lib.hid hc
  have hdec : dec j (x :: r) = .ok (.str (((x :: r).drop h).take n0), (x :: r).drop (h + n0)) := by rw [dec_eq, if_neg (by simp; omega), hs]; simp only []; rw [if_pos (by simp; omega)]
  have hsg : single (((x :: r).drop h).take n0) = false := by
    rcases spl_head hb hs with ⟨h1, _⟩ | ⟨_, _, _, h1⟩ | ⟨h1, _⟩
    · simp at h1; omega
    · exact h1
    · simp at h1; omega
  have HD := Lib.hid (And.intro hdec hsg)
  have hmk := mkT
  have hx1 : ¬ (192 : Int) ≤ x := by omega
  have hx3 : ¬ (x : Int) < 128 := by omega
  have hx4 : (x : Int) < 192 := by omega
  clear hdec h8 h4 hv hb hspl hc hs hle hsg
  simp only [List.length_cons] at *
  go_enter Tryz.func63, Tryz.ntmps63
  go_wp2_with (go_at_call 90; refine HC.out.mono ?_; rintro e w1 ⟨p1, n1, c1, p2, n2, c2, rfl, hv1, hv2, hT1⟩; have hc1 := (hT1.cell (p := ⟨b, o, none⟩) hbw (by simp)).trans hc0; have HV := Lib.hid (And.intro hv1 hv2); clear hv1 hv2)
  go_ret3
  refine parsepost_yes HD.out.1 hT1 ?_ HV.out.2
  unfold PcV
  rw [if_neg (by rw [HD.out.2]; decide)]
  exact ⟨_, rfl, HV.out.1⟩
set_option maxHeartbeats 600000 in
set_option maxRecDepth 100000 in
theorem parse_list (X : List Nat) (v : Value) (x : Nat) (r : List Nat) (j : Nat) (w : World) (d : Int) (hn : (x :: r).length ≤ 100000000) (hv : RdA X w v (x :: r)) (hd : d + j = 32) (h n0 j' : Nat) (ih : ListOK j') (hj : j = j' + 1) (hd0 : 0 ≤ d) (hX : ∀ x ∈ X, x < w.heap.size) (hx : 192 ≤ x) (hs : spl (x :: r) = some (h, n0)) : Calls Tryz.prog 63 #[v, .int .i64 d] w (ParsePost X j (x :: r) w) := by
  obtain ⟨p, n, c, rfl⟩ := slice_keep hv
  obtain ⟨p', c', hp, _, hb, h4⟩ := id hv
  have hxb := hb x List.mem_cons_self
  cases hp
  obtain ⟨b, o, rfl, hbw, _, h8⟩ := h4 (by simp)
  have hc0 := h8 0 (by simp)
  rw [Nat.add_zero] at hc0
  simp only [List.getD_cons_zero] at hc0
  have hspl := rsplit_any X _ (x :: r) w hn hv
  have hle := spl_some hs
  have hc := hspl.mono (R' := fun e w' => ∃ p1 n1 c1 p2 n2 c2, e = .returned (.tuple #[.slice p1 n1 c1, .slice p2 n2 c2, .bool true]) ∧ RdA X w' (.slice p1 n1 c1) (((x :: r).drop h).take n0) ∧ RdA X w' (.slice p2 n2 c2) ((x :: r).drop (h + n0)) ∧ Tch [] w w') (fun e w' h => by
    obtain ⟨h1, h2⟩ := h
    rw [hs] at h2
    obtain ⟨v1, v2, h3, h5, h6⟩ := h2
    obtain ⟨p1, n1, c1, rfl⟩ := slice_keep h5
    obtain ⟨p2, n2, c2, rfl⟩ := slice_keep h6
    exact ⟨p1, n1, c1, p2, n2, c2, h3, h5, h6, h1⟩)
  have HC := Lib.hid hc
  obtain ⟨body, hbody⟩ : ∃ body, body = ((x :: r).drop h).take n0 := ⟨_, rfl⟩
  have hbl : body.length = n0 := by rw [hbody, List.length_take, List.length_drop]; omega
  have hdec : dec j (x :: r) = match decL (dec j') n0 body with
      | .error e => .error e
      | .ok ts => .ok (.lst ts, (x :: r).drop (h + n0)) := by
    subst hj
    rw [dec_eq, if_neg (by simp), hs, hbody]; simp only []; rw [if_neg (by simp; omega)]
    cases decL (dec j') n0 (List.take n0 (List.drop h (x :: r))) <;> rfl
  rw [← hbody] at HC
  have hlist := fun (w1 : World) (u : Value) (hT : Tch [] w w1) (hu : RdA X w1 u body) => (ih X u body w1 (d + 1) (by have := hle.1; omega) (fun y hy => Nat.lt_of_lt_of_le (hX y hy) hT.size) hu (by omega) (by omega)).mono (R' := fun e w' => ∃ p3 n3 k3, ∃ en : Int, e = .returned (.tuple #[.slice p3 n3 k3, .int .i64 en]) ∧ Tch [] w1 w' ∧
      ∀ (v2 : Value), RdA X w1 v2 ((x :: r).drop (h + n0)) → ParsePost X j (x :: r) w (.returned (.tuple #[.iface 167 (.slice p3 n3 k3), v2, .int .i64 en])) w') (fun e w' hh => by
    obtain ⟨h1, h2⟩ := hh
    rw [hbl] at h2
    split at h2
    · rename_i e' he
      obtain ⟨p3, n3, k3, rfl⟩ := h2
      refine ⟨p3, n3, k3, _, rfl, h1, fun v2 _ => parsepost_no (by rw [hdec, he]) rfl (hT.trans h1)⟩
    · rename_i ts he
      obtain ⟨p3, k3, rfl, hpc⟩ := h2
      refine ⟨p3, _, k3, _, rfl, h1, fun v2 hv2 => parsepost_yes (by rw [hdec, he]) (hT.trans h1) (by subst hj; exact hpc) (hv2.tch (h1.mono (by simp)))⟩)
  have HL := Lib.hid hlist
  have hmk := mkL
  have hx1 : (192 : Int) ≤ x := by omega
  have hd1 : (d == 32) = false := by simp; omega
  have hd2 : ¬ d = 32 := by omega
  have hd3 : d ≤ 31 := by omega
  have hx3 : ¬ (x : Int) < 128 := by omega
  have hx4 : ¬ (x : Int) < 192 := by omega
  clear hdec h8 h4 hv hb hspl hc hs hle hlist hbody hbl hj hd
  simp only [List.length_cons] at *
  go_enter Tryz.func63, Tryz.ntmps63
  go_wp2_with (first
    | (go_at_call 90; refine HC.out.mono ?_; rintro e w1 ⟨p1, n1, c1, p2, n2, c2, rfl, hv1, hv2, hT1⟩; have hc1 := (hT1.cell (p := ⟨b, o, none⟩) hbw (by simp)).trans hc0; have HV := Lib.hid (And.intro hv1 hv2); clear hv1 hv2)
    | (go_at_call 91; refine (HL.out _ _ hT1 HV.out.1).mono ?_; rintro e w2 ⟨p3, n3, k3, en, rfl, hT2, hfin⟩; have HF := Lib.hid hfin; clear hfin))
  go_ret3
  exact HF.out _ HV.out.2
theorem parse_of (j : Nat) (ih : ∀ j', j = j' + 1 → ListOK j') : ParseOK j := by
  intro X v l w d hn hX hv hd hd0
  cases l with
  | nil => exact parse_nil X v j w d hv
  | cons x r =>
    by_cases hx : 192 ≤ x
    · cases j with
      | zero => exact parse_deep X v x r 0 w d hn hv hd hx rfl
      | succ j' =>
        cases hs : spl (x :: r) with
        | none => exact parse_none_list X v x r (j' + 1) w d hn hv hd hx (by omega) hs
        | some hn2 =>
          obtain ⟨h, n0⟩ := hn2
          exact parse_list X v x r (j' + 1) w d hn hv hd h n0 j' (ih j' rfl) rfl hd0 hX hx hs
    · cases hs : spl (x :: r) with
      | none => exact parse_none_low X v x r j w d hn hv hd (by omega) hs
      | some hn2 =>
        obtain ⟨h, n0⟩ := hn2
        by_cases hx2 : x < 128
        · exact parse_single X v x r j w d hn hv hd h n0 hx2 hs
        · exact parse_text X v x r j w d hn hv hd h n0 (by omega) (by omega) hs
end Go.Proofs.YtdjhjgockgmbkaaGreatDoor
