/- item: branches. -/
import Derived.Test.YtfdihphhmhgejaaM33
import Derived.Deep.MidRow
import Derived.Test.YtfdihphhmhgejaaM26
set_option linter.unusedVariables false
set_option linter.unusedSimpArgs false
namespace Go.Proofs.Ytfdihphhmhgejaa
open Go.RowKit Tr

def cf (n : Nat) (g : Nat → Value) : Array Value := ((List.range n).map g).toArray
theorem cf_size (n : Nat) (g : Nat → Value) : (cf n g).size = n := by simp [cf]
theorem cf_get {n : Nat} (g : Nat → Value) {i : Nat} (h : i < n) : (cf n g)[i]? = some (g i) := by simp [cf, h]
theorem cf_put {n j : Nat} (g : Nat → Value) (h : j + 3 ≤ n) (x y z : Value) : ((cf n g).toList.take j ++ [x, y, z] ++ (cf n g).toList.drop (j + 3)).toArray = cf n (fun i => if i = j then x else if i = j + 1 then y else if i = j + 2 then z else g i) := by
  unfold cf
  congr 1
  apply List.ext_getElem?
  intro i
  have hl : ((List.range n).map g).length = n := by simp
  by_cases h1 : i < j
  · rw [List.append_assoc, List.getElem?_append_left (by rw [List.length_take, hl]; omega), List.getElem?_take_of_lt h1]
    have hi : i < n := by omega
    simp [hi, show ¬ i = j by omega, show ¬ i = j + 1 by omega, show ¬ i = j + 2 by omega]
  · by_cases h2 : i < j + 3
    · have ht : (((List.range n).map g).take j).length = j := by rw [List.length_take, hl]; omega
      rw [List.append_assoc, List.getElem?_append_right (by rw [ht]; omega), List.getElem?_append_left (by rw [ht]; simp; omega), ht]
      have hi : i < n := by omega
      rcases (show i = j ∨ i = j + 1 ∨ i = j + 2 by omega) with rfl | rfl | rfl
      · simp [hi]
      · simp [hi]
      · simp [hi]
    · have ht : (((List.range n).map g).take j ++ [x, y, z]).length = j + 3 := by rw [List.length_append, List.length_take, hl]; simp; omega
      rw [List.getElem?_append_right (by rw [ht]; omega), List.getElem?_drop, ht, show j + 3 + (i - (j + 3)) = i by omega]
      by_cases hi : i < n
      · simp [hi, show ¬ i = j by omega, show ¬ i = j + 1 by omega, show ¬ i = j + 2 by omega]
      · simp [hi]
def gz (i : Nat) : Value := if i % 3 = 0 then .bool false else .slice none 0 0
theorem arr17_zero : (Try.prog.info? 114).bind (·.zero) = some (.agg (cf 51 gz)) := by kernel_rfl
theorem arr17_ty : Try.prog.underlying 114 = some (.array 17 27) := by kernel_rfl
theorem arr16_size : (Try.prog.info? 115).map (·.size) = some 16 := by kernel_rfl
theorem fa_br1 (b : Nat) (w : World) : (Instr.fieldAt 117 (.pointer (some ⟨b, 0, none⟩)) 1).run Try.prog w = .ok (.pointer (some ⟨b, 16, none⟩)) w := by kernel_rfl
theorem slice17 (b : Nat) (w : World) : (Instr.sliceAt 114 (.pointer (some ⟨b, 0, none⟩)) none none none).run Try.prog w = .ok (.slice (some ⟨b, 0, none⟩) 17 17) w := by
  have hadd : (⟨b, 0, none⟩ : Addr).add (0 * 3) = ⟨b, 0, none⟩ := rfl
  simp only [Instr.sliceAt, Sem.run_bind, run_underlying arr17_ty w, Result.andThen_ok, Instr.sureAddr, Instr.sliceBounds, Sem.run_pure, sizeOf_one item_sizeT w, hadd, if_false, show (17 : Nat) ≠ 0 by decide, Nat.sub_zero]
theorem idx17 (b : Nat) {d : Nat} (h : d < 17) (w : World) : (Instr.indexAt 114 (.pointer (some ⟨b, 0, none⟩)) (.int .i64 (d : Int))).run Try.prog w = .ok (.pointer (some ⟨b, d * 3, none⟩)) w := by
  have hadd : (⟨b, 0, none⟩ : Addr).add (d * 3) = ⟨b, d * 3, none⟩ := by unfold Addr.add; split <;> simp_all
  simp [Instr.indexAt, run_underlying arr17_ty, Instr.sureAddr, asIntOf, sizeOf_one item_sizeT, h, hadd]
theorem index16 (c : Nat → Value) {d : Nat} (h : d < 16) (w : World) : (Instr.index 115 (.agg ((List.range 16).map c).toArray) (.int .i64 (d : Int))).run Try.prog w = .ok (c d) w := by
  have hin : 0 ≤ (d : Int) ∧ (d : Int) < (16 : Nat) := by omega
  have hp : (part 53 ((List.range 16).map c).toArray (d * 1)).run Try.prog w = .ok (c d) w := by
    have hg : ((List.range 16).map c).toArray[d]? = some (c d) := by simp [h]
    have ha := tnode_agg w
    simp [part, Sem.run_bind, ha, hg]
  simp only [Instr.index, asIntOf, Sem.run_bind, run_underlying arr16_ty, Result.andThen_ok, Sem.run_pure, hin, and_self, if_true, sizeOf_one tnode_size, Int.toNat_natCast, hp]
section
variable {a : Act} {w : World} {o : Oper} {ops : Array Oper} {rest : List Oper} {Q : Exit → Act → World → Prop}
/-- Three cells are stored. -/
theorem arm_store3 {b j : Nat} {t : TypeId} {c : Array Value} {x y z : Value} (hB : Blk w b t c) (hj : j + 3 ≤ c.size) (h1 : #[x, y, z].all (·.oneCell') = true) (hgd : o.guard = none) (xo yo : Operand)
    (ho : o.op = .store 27 xo yo) (hx : a.eval xo = .pointer (some ⟨b, j, none⟩)) (hy : a.eval yo = .agg #[x, y, z])
    (h : ∀ w', Only b w w' → Blk w' b t (c.toList.take j ++ [x, y, z] ++ c.toList.drop (j + 3)).toArray → wpList Try.prog ops Q rest (a.put o.dst undef) w') : wpList Try.prog ops Q (o :: rest) a w :=
  wpList_plain hgd fun K hK => by
    have hr := run_storeCells_at (P := Try.prog) b j t [x, y, z] 0 c w hB (by simpa using hj) (fun v hv => (Array.all_eq_true_iff_forall_mem.1 h1) v (by simpa using hv))
    have hr2 : (Instr.storeAt 27 (.pointer (some ⟨b, j, none⟩)) (.agg #[x, y, z])).run Try.prog w = .ok () (w.setRow b (c.toList.take j ++ [x, y, z] ++ c.toList.drop (j + 3)).toArray) := by
      simp only [Nat.add_zero, List.length_cons, List.length_nil, Nat.zero_add] at hr
      have hsz := item_sizeT
      cases hq : Try.prog.info? 27 with
      | none => simp [hq] at hsz
      | some i =>
        have hs : i.size = 3 := by simpa [hq] using hsz
        simp [Instr.storeAt, Instr.sureAddr, storeVar, sizeOf, typeInfo, hq, Value.cells, hs, hr]
    unfold Oper.wp execOp
    simp only [ho, hx, hy, Sem.run_bind, hr2, Result.andThen_ok, Sem.run_pure]
    exact hK _ _ (h _ (Only.setRow w b _) (hB.row _))
end
/-- What holds of the list behind d nodes. -/
def BrI (X : List Nat) (s : Nat → It) (d : Nat) (g : Nat → Value) (w : World) : Prop :=
  (∀ j, ∀ x, g j ≠ .int .u8 x) ∧ ∀ j, j < d → ∃ (t : Bool) (p : Option Addr) (n c : Nat) (q : Option Addr) (m e : Nat), g (j * 3) = .bool t ∧ g (j * 3 + 1) = .slice p n c ∧ g (j * 3 + 2) = .slice q m e ∧ ItC X w (dep (s j) + 1) (.bool t) (.slice p n c) (.slice q m e) (s j)
theorem BrI.zero (X : List Nat) (s : Nat → It) (w : World) : BrI X s 0 gz w := ⟨fun j x => by unfold gz; split <;> simp, fun j hj => by omega⟩
theorem BrI.tch {X : List Nat} {s : Nat → It} {d : Nat} {g : Nat → Value} {w w' : World} (h : BrI X s d g w) (hT : Tch X w w') : BrI X s d g w' := ⟨h.1, fun j hj => by
  obtain ⟨t, p, n, c, q, m, e, h1, h2, h3, h4⟩ := h.2 j hj
  exact ⟨t, p, n, c, q, m, e, h1, h2, h3, h4.tch hT⟩⟩
theorem BrI.noB {X : List Nat} {s : Nat → It} {d n : Nat} {g : Nat → Value} {w : World} (h : BrI X s d g w) : NoB (cf n g) := fun j x hx => by
  by_cases hj : j < n
  · rw [cf_get g hj] at hx
    exact h.1 j x (Option.some.inj hx)
  · rw [Array.getElem?_eq_none (by rw [cf_size]; omega)] at hx
    cases hx
theorem BrI.step {X : List Nat} {s : Nat → It} {d : Nat} {g : Nat → Value} {w : World} {t : Bool} {p q : Option Addr} {n c m e : Nat} (h : BrI X s d g w) (hI : ItC X w (dep (s d) + 1) (.bool t) (.slice p n c) (.slice q m e) (s d)) :
    BrI X s (d + 1) (fun i => if i = d * 3 then .bool t else if i = d * 3 + 1 then .slice p n c else if i = d * 3 + 2 then .slice q m e else g i) w := by
  refine ⟨fun j x => ?_, fun j hj => ?_⟩
  · show (if j = d * 3 then Value.bool t else if j = d * 3 + 1 then .slice p n c else if j = d * 3 + 2 then .slice q m e else g j) ≠ _
    split
    · simp
    · split
      · simp
      · split
        · simp
        · exact h.1 j x
  · by_cases hjd : j = d
    · subst hjd
      exact ⟨t, p, n, c, q, m, e, by simp, by simp, by simp, hI⟩
    · obtain ⟨t', p', n', c', q', m', e', h1, h2, h3, h4⟩ := h.2 j (by omega)
      refine ⟨t', p', n', c', q', m', e', ?_, ?_, ?_, h4⟩
      · simp only [show ¬ j * 3 = d * 3 by omega, show ¬ j * 3 = d * 3 + 1 by omega, show ¬ j * 3 = d * 3 + 2 by omega, if_false]; exact h1
      · simp only [show ¬ j * 3 + 1 = d * 3 by omega, show ¬ j * 3 + 1 = d * 3 + 1 by omega, show ¬ j * 3 + 1 = d * 3 + 2 by omega, if_false]; exact h2
      · simp only [show ¬ j * 3 + 2 = d * 3 by omega, show ¬ j * 3 + 2 = d * 3 + 1 by omega, show ¬ j * 3 + 2 = d * 3 + 2 by omega, if_false]; exact h3
theorem branch_list {X : List Nat} {S : Nat → It} {g : Nat → Value} {W : World} {bt b1 : Nat} {l : List It} (hl : l.length = 17) (hS : ∀ i (h : i < l.length), l[i] = S i) (hI : BrI (bt :: b1 :: X) S 17 g W) (hB : Blk W bt 114 (cf 51 g)) (hn : bt ∉ b1 :: X) :
    ItC (b1 :: X) W (dep (.lst l) + 1) (.bool true) (.slice none 0 0) (.slice (some ⟨bt, 0, none⟩) 17 17) (.lst l) := by
  refine itc_list (fun i => (g (i * 3), g (i * 3 + 1), g (i * 3 + 2))) hl.symm (by decide) hB.lt hn fun i hi => ?_
  have hi17 : i < 17 := by omega
  obtain ⟨t, p, n, c, q, m, e, h1, h2, h3, h4⟩ := hI.2 i hi17
  rw [hS i hi]
  refine ⟨hB.cell (cf_get g (by omega)), hB.cell (cf_get g (by omega)), hB.cell (cf_get g (by omega)), ?_⟩
  show ItC _ _ _ (g (i * 3)) (g (i * 3 + 1)) (g (i * 3 + 2)) _
  rw [h1, h2, h3]
  exact h4.mono (fun y hy => .inl (List.mem_cons_of_mem _ hy))
set_option maxHeartbeats 8000000 in
set_option maxRecDepth 100000 in
theorem item_branch (X : List Nat) (b : Nat) (c : Nat → Value) (uv : Value) (s : Nat → It) (u : List Nat) (w : World) (hB : Blk w b 117 (brC c uv)) (hu : RdB w uv u) (hr : ∀ d, d < 16 → RefOK (c d) (s d) w)
    (hX : OffX X w) (hul : u.length ≤ 900000) :
    Calls Try.prog 37 #[.iface 113 (.pointer (some ⟨b, 0, none⟩)), (.func (.func 18) #[] #[])] w (ItemPost X (.lst ((List.range 16).map s ++ [.str u])) w) := by
  have hS := St.start w
  have k0 := eql_node
  have k1 := ta_b_l
  have k2 := ta_b_e
  have k3 := ta_b_b
  have k4 := fa_br0
  have k5 := fa_br1
  obtain ⟨ds, hds⟩ := item_tyS
  obtain ⟨p2, c2, rfl⟩ := hu.shape'
  obtain ⟨S, hSd, hS16⟩ : ∃ S : Nat → It, (∀ d, d < 16 → S d = s d) ∧ S 16 = .str u := ⟨fun i => if i < 16 then s i else .str u, fun d hd => if_pos hd, rfl⟩
  obtain ⟨l, hlq⟩ : ∃ l, l = (List.range 16).map s ++ [.str u] := ⟨_, rfl⟩
  have hll : l.length = 17 := by rw [hlq]; simp
  have hlS : ∀ i (h : i < l.length), l[i] = S i := by
    intro i h
    subst hlq
    rcases Nat.lt_or_ge i 16 with h16 | h16
    · rw [hSd i h16, List.getElem_append_left (by simpa using h16)]; simp
    · have : i = 16 := by omega
      subst this
      rw [hS16]; simp
  rw [← hlq]
  have HLS := Lib.hid (fun (g : Nat → Value) (W : World) (bt b1 : Nat) (hI : BrI (bt :: b1 :: X) S 17 g W) (hB : Blk W bt 114 (cf 51 g)) (hn : bt ∉ b1 :: X) => branch_list hll hlS hI hB hn)
  have HXW := Lib.hid hX.lt
  clear hlS hll hlq
  obtain ⟨cl, hcl⟩ : ∃ cl : List Value, cl = (List.range 16).map c := ⟨_, rfl⟩
  have hcll : (Try.prog.info? 115).map (·.size) = some cl.length := by rw [hcl]; exact arr16_size
  have HL := Lib.hid (fun (w' : World) (hT : Tch [] w w') (j : Nat) (v : Value) (hv : cl[j]? = some v) => show w'.cell? ⟨b, 0 + j, none⟩ = some v from by
    rw [hcl] at hv
    have hj : j < 16 := by
      rcases Nat.lt_or_ge j 16 with h | h
      · exact h
      · rw [List.getElem?_eq_none (by simpa using h)] at hv; cases hv
    rw [hT.cell (p := ⟨b, 0 + j, none⟩) hB.lt (by simp), Nat.zero_add]
    have e : v = c j := by simpa [hj] using hv.symm
    rw [e]
    exact hB.cell (brC_get c _ hj))
  have HIX := Lib.hid (fun (d : Nat) (hd : d < 16) (w' : World) => show (Instr.index 115 (.agg cl.toArray) (.int .i64 (d : Int))).run Try.prog w' = .ok (c d) w' from by rw [hcl]; exact index16 c hd w')
  clear hcl
  have HC := Lib.hid (fun (w' : World) (hT : Tch [] w w') => (hT.cell (p := ⟨b, 16, none⟩) hB.lt (by simp)).trans (hB.cell (j := 16) (brC_last c _)))
  have HU := Lib.hid (fun (Y : List Nat) (w' : World) (hT : Tch [] w w') (hY : OffX Y w') => text_any Y _ u w' (hu.tch hT (by simp)) hY (by omega))
  rw [← hS16] at HU
  have HR := Lib.hid (fun (d : Nat) (hd : d < 16) => show RefOK (c d) (S d) w from by rw [hSd d hd]; exact hr d hd)
  have HX := Lib.hid hX
  clear hu hr hX hul hB hSd hS16
  go_enter Try.func37, Try.ntmps37
  go_wp2_with (first
    | (refine st_new hS rfl 27 rfl item_zero ?_; clear hS; intro w1 b1 hS)
    | (refine st_new hS rfl 114 rfl arr17_zero ?_; clear hS; intro w2 bt hS)
    | (refine wpList_load_mid rfl 115 _ rfl b 0 rfl cl _ (HL.out _ hS.frame) arr16_ty rfl hcll ?_))
  have hne : bt ∉ b1 :: X := fun hm => by
    rcases List.mem_cons.1 hm with h | h
    · have := (List.pairwise_cons.1 hS.apart).1 _ List.mem_cons_self
      exact this h
    · have h1 := HXW.out _ h
      have h2 := (hS.own .head).resolve_right (by simp)
      omega
  have HNE := Lib.hid hne
  clear hne
  go_loopw [59] (fun i wr => ∃ (d : Nat) (g : Nat → Value), i = .int .i64 (d : Int) ∧ d ≤ 16 ∧ St [] w wr [(bt, 114, cf 51 g), (b1, 27, #[.bool false, .slice none 0 0, .slice none 0 0])] ∧ Hid (BrI (bt :: b1 :: X) S d g wr)) (fun i _ => 16 - (intOf i).toNat)
  case atStart => exact ⟨0, gz, rfl, by decide, hS, Lib.hid (BrI.zero _ _ _)⟩
  case round =>
    clear hS
    obtain ⟨d, g, rfl, hd, hS, HI⟩ := hrel
    by_cases hlt : d < 16
    · have d1 : (d : Int) < 16 := by omega
      have d0 : (0 : Int) ≤ (d : Int) := by omega
      have kx := HIX.out d hlt
      have ki := idx17 bt (d := d) (by omega)
      have HD := Lib.hid hlt
      go_wp2_with (first
        | (go_at_call 59; refine (HR.out d HD.out (bt :: b1 :: X) _ hS.frame (((HX.out.tch hS.frame).cons (hS.get (.tail .head)) (NoB.item _ _ _ _ _ _ _)).cons (hS.get .head) HI.out.noB)).mono ?_; rintro e w3 ⟨hT, t, p, n, cc, q, m, ee, rfl, hI⟩; have HI2 := Lib.hid (And.intro (HI.out.tch hT.toX) hI); replace hS := hS.call hT; clear hT hI)
        | (refine arm_store3 (hS.get .head) (by rw [cf_size]; omega) (item3_one _ _ _ _ _ _ _) rfl _ _ rfl rfl rfl ?_; intro w4 hO hB4; rw [cf_put g (by omega)] at hB4; replace hS := hS.upd .head hO hB4; have hT4 := hO.tch.mono (cs := bt :: b1 :: X) (fun x hx => .inl (by rw [List.mem_singleton] at hx; rw [hx]; exact List.mem_cons_self)); have HI3 := Lib.hid ((HI2.out.1.tch hT4).step (HI2.out.2.tch hT4)); clear hO hB4 hT4))
      go_roundw
      case rel => exact ⟨d + 1, _, by go_num, by omega, hS, HI3⟩
      case measure => simp [intOf]; omega
    · obtain rfl : d = 16 := by omega
      have hcu := HC.out _ hS.frame
      have ki : ∀ w, (Instr.indexAt 114 (.pointer (some ⟨bt, 0, none⟩)) (.int .i64 16)).run Try.prog w = .ok (.pointer (some ⟨bt, 48, none⟩)) w := fun w => idx17 bt (d := 16) (by decide) w
      have ks := slice17
      go_wp2_with (first
        | (go_at_call 58; refine (HU.out (bt :: b1 :: X) _ hS.frame (((HX.out.tch hS.frame).cons (hS.get (.tail .head)) (NoB.item _ _ _ _ _ _ _)).cons (hS.get .head) HI.out.noB)).mono ?_; rintro e w3 ⟨hT, t, p, n, cc, q, m, ee, rfl, hI⟩; have HI2 := Lib.hid (And.intro (HI.out.tch hT.toX) hI); replace hS := hS.call hT; clear hT hI)
        | (refine arm_store3 (j := 48) (hS.get .head) (by rw [cf_size]; decide) (item3_one _ _ _ _ _ _ _) rfl _ _ rfl rfl rfl ?_; intro w4 hO hB4; rw [cf_put g (by decide)] at hB4; replace hS := hS.upd .head hO hB4; have hT4 := hO.tch.mono (cs := bt :: b1 :: X) (fun x hx => .inl (by rw [List.mem_singleton] at hx; rw [hx]; exact List.mem_cons_self)); have HI3 := Lib.hid ((HI2.out.1.tch hT4).step (HI2.out.2.tch hT4)); clear hO hB4 hT4)
        | (go_at_call 56; refine (list_any (b1 :: X) _ l _ (HLS.out _ _ _ _ HI3.out (hS.get .head) HNE.out)).mono ?_; rintro e w5 ⟨hT, t5, p5, n5, c5, q5, m5, e5, rfl, hI5⟩; replace hS := hS.call hT; clear hT)
        | (refine st_storeO (b := b1) (c' := #[.bool t5, .slice p5 n5 c5, .slice q5 m5 e5]) hS rfl 27 _ _ rfl rfl rfl (.tail .head) item_sizeT rfl rfl (item3_one _ _ _ _ _ _ _) ?_; clear hS; intro w6 hS hO; replace hI5 := hI5.tch (hO.tch.mono (fun x hx => .inl (by rw [List.mem_singleton] at hx; rw [hx]; exact List.mem_cons_self)))))
      exact st_post hS 4 27 rfl rfl rfl (.tail .head) hds rfl item_sizeT rfl (fun hT => ⟨hT, _, _, _, _, _, _, _, rfl, hI5.mono (by intro y hy; exact .inl (List.mem_cons_of_mem _ hy))⟩)
end Go.Proofs.Ytfdihphhmhgejaa

/- item whole; encode; grow; Root. -/
namespace Go.Proofs.Ytfdihphhmhgejaa
open Go.RowKit Tr

theorem item_all : ∀ {T : TN} {v : Value} {B : Nat} {w : World}, TreeV B w T v → WT T → ItemOK v (itemT pkT HL T) w
  | .nil, v, B, w, h, _ => fun Y w1 _ _ => by
    obtain rfl : v = .nilIface := h
    refine (item_none _ w1).mono ?_
    rintro e w2 ⟨rfl, hT⟩
    refine ⟨hT, _, _, _, _, _, _, _, rfl, ?_⟩
    show ItC Y w2 (dep (.str []) + 1) _ _ _ (.str [])
    rw [dep_str]
    unfold ItC
    exact ⟨rfl, ⟨none, 0, rfl, Nat.le_refl _, by simp, fun h => absurd rfl h⟩, by simp⟩
  | .leaf p u, v, B, w, h, hw => fun Y w1 h1 hY => by
    obtain ⟨b, pv, uv, rfl, _, hB, hp, hu⟩ := h
    exact item_leaf Y b pv uv p u w1 (h1.blk hB (by simp)) (hp.tch h1 (by simp)) (hu.tch h1 (by simp)) hY hw.1 hw.2.1 hw.2.2
  | .ext p s, v, B, w, h, hw => fun Y w1 h1 hY => by
    obtain ⟨b, pv, sv, rfl, _, hB, hp, hs⟩ := h
    exact item_ext Y b pv sv p (refI HL (itemT pkT HL s)) w1 (h1.blk hB (by simp)) (hp.tch h1 (by simp)) (((item_all (hs.tch h1) hw.2.2)).ref (item_enc HL_len hw.2.2) (item_dep _)) hs.one hY hw.1 hw.2.1
  | .branch s u, v, B, w, h, hw => fun Y w1 h1 hY => by
    obtain ⟨b, c, uv, rfl, _, hB, hu, hs⟩ := h
    exact item_branch Y b c uv (fun d => refI HL (itemT pkT HL (s d))) u w1 (h1.blk hB (by simp)) (hu.tch h1 (by simp)) (fun d hd => (item_all ((hs d hd).tch h1) (hw.2 d hd)).ref (item_enc HL_len (hw.2 d hd)) (item_dep _)) hY hw.1
theorem encode_any (v : Value) (it : It) (w : World) (HI : ItemOK v it w) (he : (enc it).length ≤ 901000) (hd : dep it ≤ 32) :
    Calls Try.prog 20 #[v, (.func (.func 18) #[] #[])] w fun e w' => Tch [] w w' ∧ ∃ b, w.heap.size ≤ b ∧ e = .returned (.slice (some ⟨b, 0, none⟩) (enc it).length (enc it).length) ∧ RdB w' (.slice (some ⟨b, 0, none⟩) (enc it).length (enc it).length) (enc it) := by
  have HIT := Lib.hid HI
  have HPK := Lib.hid (fun (w1 : World) (x0 vb vl : Value) (hI : ItC [] w1 (dep it + 1) x0 vb vl it) => (tpack_any (dep it + 1) x0 vb vl it w1 hI ⟨hd, by omega⟩).mono fun e w' h => h.rd (enc_b hI he))
  clear HI he hd
  generalize enc it = L at *
  go_enter Try.func20, Try.ntmps20
  go_wp2_with (first
    | (go_at_call 37; refine (HIT.out [] _ (Tch.refl _ _) (by intro x hx; cases hx)).mono ?_; rintro e w1 ⟨hT1, t, p, n, c, q, m, d, rfl, hI⟩)
    | (go_at_call 36; refine (HPK.out _ _ _ _ hI).mono ?_; rintro e w2 ⟨hT, b, hb, rfl, hB⟩))
  go_ret
  exact ⟨hT1.trans hT, b, Nat.le_trans hT1.size hb, rfl, hB⟩
theorem entries_any (ps : List En) : (entries ps).any noValue = Empty' ps := by
  unfold entries Empty'
  rw [List.any_map]
  rfl
theorem PairsAt.lt {w : World} {v : Value} {ps : List En} (h : PairsAt w v ps) : ∀ p ∈ ps, (∀ x ∈ p.1, x < 256) ∧ ∀ x ∈ p.2, x < 256 := fun p hp => by
  obtain ⟨q, c, _, _, h3⟩ := h
  obtain ⟨b, o, _, _, h6⟩ := h3 (List.ne_nil_of_mem hp)
  obtain ⟨i, hi, rfl⟩ := List.mem_iff_getElem.1 hp
  obtain ⟨kv, vv, _, _, g2, g3⟩ := h6 i hi
  obtain ⟨_, _, _, _, hk, _⟩ := g2
  obtain ⟨_, _, _, _, hv, _⟩ := g3
  exact ⟨hk, hv⟩
theorem rests_zero (l : List En) : rests 0 l = l := by
  unfold rests
  have : (fun e : En => (e.1.drop 0, e.2)) = id := by funext e; simp
  simp
/-- What grow answers. -/
def TGrowPost (ps : List En) (w : World) (e : Ending) (w' : World) : Prop :=
  Tch [] w w' ∧ ∃ u, e = .returned (.tuple #[u, .int .i64 (mayE ps : Nat)]) ∧ (mayE ps = 0 → ItemOK u (nodeT pkT HL 200 (entries ps)) w' ∧ (enc (nodeT pkT HL 200 (entries ps))).length ≤ 901000 ∧ dep (nodeT pkT HL 200 (entries ps)) ≤ 32) ∧ (mayE ps ≠ 0 → u = .nilIface)
set_option maxHeartbeats 2000000 in
set_option maxRecDepth 100000 in
theorem tgrow_any (v : Value) (ps : List En) (w : World) (hv : PairsAt w v ps) (hn : ps.length ≤ 4611686018427387904) (hV : mayE ps = 0 → ∀ p ∈ ps, p.2.length ≤ 900000) :
    Calls Try.prog 17 #[v] w (TGrowPost ps w) := by
  have HTL := Lib.hid (tooLong_any v ps w hv hn)
  by_cases hlong : 100000 < ps.length ∨ ps.any longP = true
  · have hm : mayE ps = 3 := by unfold mayE; rw [if_pos hlong]
    have hb : (decide (100000 < ps.length) || ps.any longP) = true := by
      rcases hlong with h | h
      · rw [decide_eq_true h, Bool.true_or]
      · rw [h, Bool.or_true]
    rw [hb] at HTL
    have HF := Lib.hid hm
    clear hV hb hlong hm hv hn
    go_enter Try.func17, Try.ntmps17
    go_wp2_with (go_at_call 29; refine HTL.out.mono ?_; rintro e w1 ⟨rfl, hT⟩)
    go_ret2
    exact ⟨hT, .nilIface, by rw [HF.out]; rfl, fun h => (by rw [HF.out] at h; cases h), fun _ => rfl⟩
  · have hb : (decide (100000 < ps.length) || ps.any longP) = false := by
      have h1 : ¬ 100000 < ps.length := fun h => hlong (.inl h)
      have h2 : ps.any longP = false := by
        cases hq : ps.any longP with
        | false => rfl
        | true => exact absurd (.inr hq) hlong
      rw [decide_eq_false h1, h2]; rfl
    rw [hb] at HTL
    have hn1 : ps.length ≤ 100000 := Decidable.byContradiction fun h => hlong (.inl (by omega))
    have hk : ∀ p ∈ ps, p.1.length ≤ 64 := fun p hp => Decidable.byContradiction fun h => hlong (.inr (List.any_eq_true.2 ⟨p, hp, by unfold longP; rw [decide_eq_true (by omega), Bool.true_or]⟩))
    have hm : mayE ps = if Empty' ps = true ∨ ¬ Apart ps then 1 else 0 := by unfold mayE; rw [if_neg hlong]
    have HSO := Lib.hid (fun (w1 : World) (hT : Tch [] w w1) => (sorted_any v ps w1 (hv.tch hT) hn1 hk).mono fun e w' h => h.pairs)
    have hlt := hv.lt
    have hfacts : ∀ m : List En, (entries ps).Perm m → m.Pairwise (fun x y => ¬ lt y.1 x.1) → m.length = ps.length ∧ m.any noValue = Empty' ps ∧ (twB m = false ↔ Apart ps) := fun m hp hs =>
      ⟨by rw [← hp.length_eq]; simp [entries], by rw [← entries_any]; exact (hp.any_eq).symm, by rw [twB_unlike]; exact unlike_iff hp hs⟩
    have HFA := Lib.hid (And.intro hfacts hn1)
    have HEM := Lib.hid (fun (m : List En) (v' : Value) (w1 : World) (hp : (entries ps).Perm m) (hs : m.Pairwise (fun x y => ¬ lt y.1 x.1)) (hv' : PairsAt w1 v' m) => hasEmpty_any v' m w1 hv' (by rw [(hfacts m hp hs).1]; omega))
    have HTW := Lib.hid (fun (m : List En) (v' : Value) (w1 : World) (hp : (entries ps).Perm m) (hs : m.Pairwise (fun x y => ¬ lt y.1 x.1)) (hv' : PairsAt w1 v' m) => hasTwice_any v' m w1 hv' (by rw [(hfacts m hp hs).1]; omega))
    by_cases he : Empty' ps = true
    · rw [if_pos (.inl he)] at hm
      have HF := Lib.hid (And.intro hm he)
      clear hV hb hlong hm hv hn hfacts he hn1 hk hlt
      go_enter Try.func17, Try.ntmps17
      go_wp2_with (first
        | (go_at_call 29; refine HTL.out.mono ?_; rintro e w1 ⟨rfl, hT⟩)
        | (go_at_call 30; refine (HSO.out _ hT).mono ?_; rintro e w2 ⟨hT2, m, v', hp, hs, rfl, hv'⟩; have HM := Lib.hid (And.intro hp hs); clear hp hs; replace hT := hT.trans hT2; clear hT2)
        | (go_at_call 31; refine (HEM.out m v' _ HM.out.1 HM.out.2 hv').mono ?_; rintro e w3 ⟨rfl, hT3⟩; replace hT := hT.trans hT3; clear hT3; rw [(HFA.out.1 m HM.out.1 HM.out.2).2.1, HF.out.2]))
      go_ret2
      exact ⟨hT, .nilIface, by rw [HF.out.1]; rfl, fun h => (by rw [HF.out.1] at h; cases h), fun _ => rfl⟩
    · have he' : Empty' ps = false := by
        cases hq : Empty' ps with
        | false => rfl
        | true => exact absurd hq he
      by_cases ha : Apart ps
      · rw [if_neg (fun q => q.elim he (fun h => h ha))] at hm
        have HBU := Lib.hid (fun (m : List En) (v' : Value) (w1 : World) (hp : (entries ps).Perm m) (hs : m.Pairwise (fun x y => ¬ lt y.1 x.1)) (hv' : PairsAt w1 v' m) => show Calls Try.prog 33 #[v', .int .i64 0] w1 fun e w' => Tch [] w1 w' ∧ ∃ u, e = .returned u ∧ ItemOK u (nodeT pkT HL 200 (entries ps)) w' ∧ (enc (nodeT pkT HL 200 (entries ps))).length ≤ 901000 ∧ dep (nodeT pkT HL 200 (entries ps)) ≤ 32 from by
          have hso : Sorted m := sorted_of hs ((unlike_iff hp hs).2 ha)
          have hmem : ∀ e ∈ m, e.1.length ≤ 128 ∧ (∀ x ∈ e.1, x < 16) ∧ e.2.length ≤ 900000 := fun e hem => by
            obtain ⟨p, hpp, rfl⟩ := List.mem_map.1 (hp.symm.mem_iff.1 hem)
            have h1 := hk p hpp
            have h2 := nibT_len p.1
            exact ⟨by show (nibT p.1).length ≤ 128; omega, nibT_lt (hlt p hpp).1, hV hm p hpp⟩
          have hg : GoodE 0 m := ⟨by rw [(hfacts m hp hs).1]; exact hn1, fun e hem => ⟨Nat.zero_le _, (hmem e hem).1, (hmem e hem).2.1⟩, by rw [rests_zero]; exact hso⟩
          have hlo : longest (rests 0 m) < 200 := by
            rw [rests_zero]
            have := longest_le.2 (fun e hem => (hmem e hem).1)
            omega
          refine (build_all 200 v' m 0 w1 hv' hg (by decide) hlo).mono ?_
          rintro e w2 ⟨hT, u, rfl, hTV⟩
          rw [rests_zero] at hTV
          have hWT := build_WT 200 m hmem
          have hit : itemT pkT HL (buildT 200 m) = nodeT pkT HL 200 (entries ps) := by
            rw [item_build pkT HL 200 m hso]
            exact (nodeT_perm pkT HL 200 _ _ (hso.apart.perm hp.symm) hp).symm
          refine ⟨hT, u, rfl, ?_, ?_, ?_⟩
          · rw [← hit]; exact item_all hTV hWT
          · rw [← hit]; exact item_enc HL_len hWT
          · rw [← hit]; exact item_dep _)
        have HF := Lib.hid (And.intro hm (And.intro he' ha))
        clear hV hb hlong hm hv hn hfacts he he' hn1 hk hlt ha
        go_enter Try.func17, Try.ntmps17
        go_wp2_with (first
          | (go_at_call 29; refine HTL.out.mono ?_; rintro e w1 ⟨rfl, hT⟩)
          | (go_at_call 30; refine (HSO.out _ hT).mono ?_; rintro e w2 ⟨hT2, m, v', hp, hs, rfl, hv'⟩; have HM := Lib.hid (And.intro hp hs); clear hp hs; replace hT := hT.trans hT2; clear hT2)
          | (go_at_call 31; refine (HEM.out m v' _ HM.out.1 HM.out.2 hv').mono ?_; rintro e w3 ⟨rfl, hT3⟩; replace hv' := hv'.tch hT3; replace hT := hT.trans hT3; clear hT3; rw [(HFA.out.1 m HM.out.1 HM.out.2).2.1, HF.out.2.1])
          | (go_at_call 32; refine (HTW.out m v' _ HM.out.1 HM.out.2 hv').mono ?_; rintro e w4 ⟨rfl, hT4⟩; replace hv' := hv'.tch hT4; replace hT := hT.trans hT4; clear hT4; rw [(HFA.out.1 m HM.out.1 HM.out.2).2.2.2 HF.out.2.2])
          | (go_at_call 33; refine (HBU.out m v' _ HM.out.1 HM.out.2 hv').mono ?_; rintro e w5 ⟨hT5, u, rfl, hfin⟩; replace hT := hT.trans hT5; clear hT5))
        go_ret2
        exact ⟨hT, u, by rw [HF.out.1]; rfl, fun _ => hfin, fun h => absurd HF.out.1 h⟩
      · rw [if_pos (.inr ha)] at hm
        have HF := Lib.hid (And.intro hm (And.intro he' ha))
        clear hV hb hlong hm hv hn hfacts he he' hn1 hk hlt ha
        go_enter Try.func17, Try.ntmps17
        go_wp2_with (first
          | (go_at_call 29; refine HTL.out.mono ?_; rintro e w1 ⟨rfl, hT⟩)
          | (go_at_call 30; refine (HSO.out _ hT).mono ?_; rintro e w2 ⟨hT2, m, v', hp, hs, rfl, hv'⟩; have HM := Lib.hid (And.intro hp hs); clear hp hs; replace hT := hT.trans hT2; clear hT2)
          | (go_at_call 31; refine (HEM.out m v' _ HM.out.1 HM.out.2 hv').mono ?_; rintro e w3 ⟨rfl, hT3⟩; replace hv' := hv'.tch hT3; replace hT := hT.trans hT3; clear hT3; rw [(HFA.out.1 m HM.out.1 HM.out.2).2.1, HF.out.2.1])
          | (go_at_call 32; refine (HTW.out m v' _ HM.out.1 HM.out.2 hv').mono ?_; rintro e w4 ⟨rfl, hT4⟩; replace hT := hT.trans hT4; clear hT4; rw [show twB m = true from by cases hq : twB m with | true => rfl | false => exact absurd ((HFA.out.1 m HM.out.1 HM.out.2).2.2.1 hq) HF.out.2.2]))
        go_ret2
        exact ⟨hT, .nilIface, by rw [HF.out.1]; rfl, fun h => (by rw [HF.out.1] at h; cases h), fun _ => rfl⟩
end Go.Proofs.Ytfdihphhmhgejaa

/- Root of any pairs. -/
namespace Go.Proofs.Ytfdihphhmhgejaa
open Go.RowKit Tr

/-- The root of pairs, or nothing. -/
def rootW (ps : List En) : Nat → Nat := if mayE ps = 0 then hashN (enc (nodeT pkT HL 200 (entries ps))) else fun _ => 0
set_option maxHeartbeats 2000000 in
set_option maxRecDepth 100000 in
theorem Root_any (v : Value) (ps : List En) (w : World) (hv : PairsAt w v ps) (hn : ps.length ≤ 4611686018427387904) (hV : mayE ps = 0 → ∀ p ∈ ps, p.2.length ≤ 900000) :
    Calls Try.prog 9 #[v] w fun e w' => e = .returned (.tuple #[.agg (wf (rootW ps)), .int .i64 (mayE ps : Nat)]) ∧ Tch [] w w' := by
  have hS := St.start w
  by_cases hm : mayE ps = 0
  · have HG := Lib.hid (fun (w1 : World) (hT : Tch [] w w1) => show Calls Try.prog 17 #[v] w1 fun e w' => Tch [] w1 w' ∧ ∃ u, e = .returned (.tuple #[u, .int .i64 0]) ∧ ItemOK u (nodeT pkT HL 200 (entries ps)) w' ∧ (enc (nodeT pkT HL 200 (entries ps))).length ≤ 901000 ∧ dep (nodeT pkT HL 200 (entries ps)) ≤ 32 from
      (tgrow_any v ps w1 (hv.tch hT) hn hV).mono fun e w' h => by
        obtain ⟨h1, u, h2, h3, _⟩ := h
        rw [hm] at h2
        exact ⟨h1, u, h2, h3 hm⟩)
    have HE := Lib.hid (fun (u : Value) (w1 : World) (h : ItemOK u (nodeT pkT HL 200 (entries ps)) w1) (h1 : (enc (nodeT pkT HL 200 (entries ps))).length ≤ 901000) (h2 : dep (nodeT pkT HL 200 (entries ps)) ≤ 32) => encode_any u _ w1 h h1 h2)
    have hrw : rootW ps = hashN (enc (nodeT pkT HL 200 (entries ps))) := by unfold rootW; rw [if_pos hm]
    rw [hrw, hm]
    obtain ⟨it, hit⟩ : ∃ it, it = nodeT pkT HL 200 (entries ps) := ⟨_, rfl⟩
    rw [← hit] at HE HG ⊢
    clear hrw hit hv hn hV hm
    obtain ⟨L, hL⟩ : ∃ L, L = enc it := ⟨_, rfl⟩
    rw [← hL] at HE HG ⊢
    clear hL
    go_enter Try.func9, Try.ntmps9
    go_wp2_with (first
      | (refine st_new hS rfl 33 rfl word_zero ?_; clear hS; intro w1 b1 hS)
      | (go_at_call 17; refine (HG.out _ hS.frame).mono ?_; rintro e w2 ⟨hT, u, rfl, hok, hl1, hl2⟩; have HLL := Lib.hid hl1; replace hS := hS.call hT; clear hT)
      | (go_at_call 20; refine (HE.out u _ hok hl1 hl2).mono ?_; rintro e w3 ⟨hT, b, hb, rfl, hr⟩; replace hS := hS.call hT; clear hT hb hok hl1 hl2)
      | (go_at_call 18; refine (rsum_any _ L _ hr (by have := HLL.out; omega)).mono ?_; rintro e w4 ⟨rfl, hT⟩; replace hS := hS.call hT; clear hT hr)
      | (refine st_store (b := b1) (c' := wf (hashN L)) hS rfl 33 _ _ rfl rfl rfl .head word_size (wf_size _) (wf_size _) (wf_one _) ?_; clear hS; intro w5 hS))
    exact post_cell_one 2 3 33 rfl rfl rfl rfl (hS.get .head) word_type rfl word_size (wf_size _) ⟨rfl, hS.frame⟩
  · have HG := Lib.hid (fun (w1 : World) (hT : Tch [] w w1) => show Calls Try.prog 17 #[v] w1 fun e w' => Tch [] w1 w' ∧ e = .returned (.tuple #[.nilIface, .int .i64 (mayE ps : Nat)]) from
      (tgrow_any v ps w1 (hv.tch hT) hn hV).mono fun e w' h => by
        obtain ⟨h1, u, h2, _, h4⟩ := h
        rw [h4 hm] at h2
        exact ⟨h1, h2⟩)
    have hrw : rootW ps = fun _ => 0 := by unfold rootW; rw [if_neg hm]
    rw [hrw]
    have hml : mayE ps ≤ 3 := by unfold mayE; split <;> (try split) <;> omega
    obtain ⟨m, hmm⟩ : ∃ m, m = mayE ps := ⟨_, rfl⟩
    rw [← hmm] at HG hm hml ⊢
    have hne : ((m : Int) != 0) = true := by simp; omega
    have hne2 : ((m : Int) == 0) = false := beq_eq_false_iff_ne.2 (by omega)
    have hne3 : ¬ (m : Int) = 0 := by omega
    have hne4 : ¬ m = 0 := hm
    have kb := build_word0
    clear hv hn hV hmm hrw hml
    go_enter Try.func9, Try.ntmps9
    go_wp2_with (first
      | (refine st_new hS rfl 33 rfl word_zero ?_; clear hS; intro w1 b1 hS)
      | (go_at_call 17; refine (HG.out _ hS.frame).mono ?_; rintro e w2 ⟨hT, rfl⟩; replace hS := hS.call hT; clear hT)
      | (refine st_store (b := b1) (c' := wf fun _ => 0) hS rfl 33 _ _ rfl rfl rfl .head word_size (wf_size _) (wf_size _) (wf_one _) ?_; clear hS; intro w5 hS))
    exact post_cell_one 2 3 33 rfl rfl rfl rfl (hS.get .head) word_type rfl word_size (wf_size _) ⟨rfl, hS.frame⟩
end Go.Proofs.Ytfdihphhmhgejaa
