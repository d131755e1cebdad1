/- gas: what a transaction costs at its outset, both sides. -/
import Derived.Test.YtbbebejdfgakfaaD3
import Derived.Shelf.Bytes.SlCountOne
set_option linter.unusedVariables false
set_option linter.unusedSimpArgs false
namespace Go.Proofs.Ytbbebejdfgakfaa
open Go.RowKit
set_option maxRecDepth 100000
set_option maxHeartbeats 2000000

/-- Of a transaction: whether it makes, and its bytes. -/
def TxIn (w : World) (c : Array Value) (m : Bool) (v : Value) (L : List Nat) : Prop := c.size = 77 ∧ c[43]? = some (.bool m) ∧ c[76]? = some v ∧ RdB w v L
theorem TxIn.tch {w w' : World} {c : Array Value} {m : Bool} {v : Value} {L : List Nat} (h : TxIn w c m v L) (hT : Tch [] w w') : TxIn w' c m v L := ⟨h.1, h.2.1, h.2.2.1, h.2.2.2.tch hT (by simp)⟩
theorem bool_agg14 (w : World) : (isAgg 4).run Try.prog w = .ok false w := by simp [isAgg, run_underlying bool_ty]
def intrG (m : Bool) (L : List Nat) : Int := ((makeG m + dataG L : Nat) : Int)
theorem take_all14 (L : List Nat) : dataG (L.take L.length) = dataG L := by rw [List.take_length]
theorem rintrG_any (c : Array Value) (m : Bool) (v : Value) (L : List Nat) (w : World) (h : TxIn w c m v L) (hl : L.length ≤ 4000) : Calls Try.prog 9 #[.agg c] w fun e w' => e = .returned (.int .i64 (intrG m L)) ∧ Tch [] w w' := by
  obtain ⟨_, hm, hv, hR⟩ := h
  obtain ⟨p, cc, rfl, _, _, hc⟩ := hR
  have HC := Lib.hid hc
  have hS := St.start w
  clear hc
  unfold intrG
  cases m
  · have hm2 : makeG false = 21000 := rfl
    rw [hm2]
    clear hm2
    have HA := Lib.hid (take_all14 L)
    go_enter Try.func9, Try.ntmps9
    go_wp2_with (first
      | (refine st_box hS rfl 28 _ rfl rfl ?_; clear hS; intro w1 b1 hS)
      | (refine st_cell1 (v := .bool false) hS rfl 4 _ rfl rfl .head hm bool_agg14 ?_)
      | (refine st_cell1 (v := .slice p L.length cc) hS rfl 26 _ rfl rfl .head hv bytes_aggI ?_))
    go_loop [3, 4] (fun g i => ∃ k : Nat, k ≤ L.length ∧ i = .int .i64 (k : Int) ∧ g = .int .i64 ((21000 + dataG (L.take k) : Nat) : Int)) (fun _ i => L.length - (intOf i).toNat)
    case atStart => exact ⟨0, by omega, rfl, rfl⟩
    case round =>
      obtain ⟨k, hk, rfl, rfl⟩ := hrel
      have hle := dataG_le (L.take k)
      rw [List.length_take] at hle
      by_cases hlt : k < L.length
      · have hne : L ≠ [] := by intro e; subst e; simp at hlt
        obtain ⟨g0, o, rfl, hbw, hc⟩ := HC.out hne
        have hck := (hS.frame.cell (p := ⟨g0, o + k, none⟩) hbw (by simp)).trans (hc k hlt)
        have hst := dataG_take hlt
        clear hc
        generalize L.getD k 0 = x at *
        by_cases h0 : x = 0
        · subst h0
          rw [if_pos rfl] at hst
          have HST := Lib.hid hst
          clear hst
          generalize dataG (L.take k) = D at *
          go_wp2_with (refine st_cell1 (v := .slice (some ⟨g0, o, none⟩) L.length cc) hS rfl 26 _ rfl rfl .head hv bytes_aggI ?_)
          go_round
          case rel => exact ⟨k + 1, by omega, by go_num, by rw [HST.out]; go_num⟩
          case measure => simp [intOf]; omega
        · rw [if_neg h0] at hst
          have HST := Lib.hid hst
          clear hst
          have hx : ((x : Int) == 0) = false := by simp; omega
          generalize dataG (L.take k) = D at *
          go_wp2_with (refine st_cell1 (v := .slice (some ⟨g0, o, none⟩) L.length cc) hS rfl 26 _ rfl rfl .head hv bytes_aggI ?_)
          go_round
          case rel => exact ⟨k + 1, by omega, by go_num, by rw [HST.out]; go_num⟩
          case measure => simp [intOf]; omega
      · obtain rfl : k = L.length := by omega
        obtain ⟨D, hD⟩ : ∃ D, dataG L = D := ⟨_, rfl⟩
        rw [HA.out, hD] at hle ⊢
        have HD := Lib.hid hD
        clear hD
        go_wp2_with (refine st_cell1 (v := .slice p L.length cc) hS rfl 26 _ rfl rfl .head hv bytes_aggI ?_)
        go_ret
        exact ⟨ret_int (by rw [HD.out]), hS.frame⟩
  · have hm2 : makeG true = 53000 := rfl
    rw [hm2]
    clear hm2
    have HA := Lib.hid (take_all14 L)
    go_enter Try.func9, Try.ntmps9
    go_wp2_with (first
      | (refine st_box hS rfl 28 _ rfl rfl ?_; clear hS; intro w1 b1 hS)
      | (refine st_cell1 (v := .bool true) hS rfl 4 _ rfl rfl .head hm bool_agg14 ?_)
      | (refine st_cell1 (v := .slice p L.length cc) hS rfl 26 _ rfl rfl .head hv bytes_aggI ?_))
    go_loop [3, 4] (fun g i => ∃ k : Nat, k ≤ L.length ∧ i = .int .i64 (k : Int) ∧ g = .int .i64 ((53000 + dataG (L.take k) : Nat) : Int)) (fun _ i => L.length - (intOf i).toNat)
    case atStart => exact ⟨0, by omega, rfl, rfl⟩
    case round =>
      obtain ⟨k, hk, rfl, rfl⟩ := hrel
      have hle := dataG_le (L.take k)
      rw [List.length_take] at hle
      by_cases hlt : k < L.length
      · have hne : L ≠ [] := by intro e; subst e; simp at hlt
        obtain ⟨g0, o, rfl, hbw, hc⟩ := HC.out hne
        have hck := (hS.frame.cell (p := ⟨g0, o + k, none⟩) hbw (by simp)).trans (hc k hlt)
        have hst := dataG_take hlt
        clear hc
        generalize L.getD k 0 = x at *
        by_cases h0 : x = 0
        · subst h0
          rw [if_pos rfl] at hst
          have HST := Lib.hid hst
          clear hst
          generalize dataG (L.take k) = D at *
          go_wp2_with (refine st_cell1 (v := .slice (some ⟨g0, o, none⟩) L.length cc) hS rfl 26 _ rfl rfl .head hv bytes_aggI ?_)
          go_round
          case rel => exact ⟨k + 1, by omega, by go_num, by rw [HST.out]; go_num⟩
          case measure => simp [intOf]; omega
        · rw [if_neg h0] at hst
          have HST := Lib.hid hst
          clear hst
          have hx : ((x : Int) == 0) = false := by simp; omega
          generalize dataG (L.take k) = D at *
          go_wp2_with (refine st_cell1 (v := .slice (some ⟨g0, o, none⟩) L.length cc) hS rfl 26 _ rfl rfl .head hv bytes_aggI ?_)
          go_round
          case rel => exact ⟨k + 1, by omega, by go_num, by rw [HST.out]; go_num⟩
          case measure => simp [intOf]; omega
      · obtain rfl : k = L.length := by omega
        obtain ⟨D, hD⟩ : ∃ D, dataG L = D := ⟨_, rfl⟩
        rw [HA.out, hD] at hle ⊢
        have HD := Lib.hid hD
        clear hD
        go_wp2_with (refine st_cell1 (v := .slice p L.length cc) hS rfl 26 _ rfl rfl .head hv bytes_aggI ?_)
        go_ret
        exact ⟨ret_int (by rw [HD.out]), hS.frame⟩
theorem dataG_count (L : List Nat) : dataG L = 4 * L.count 0 + 16 * (L.length - L.count 0) := by
  induction L with
  | nil => rfl
  | cons x r ih =>
    have hc : r.count 0 ≤ r.length := List.count_le_length
    by_cases h : x = 0
    · subst h
      simp only [dataG, List.count_cons_self, List.length_cons, ih, if_true]
      omega
    · simp only [dataG, List.count_cons_of_ne h, List.length_cons, ih, if_neg h]
      omega
theorem count_bytes14 (L : List Nat) (h : ∀ x ∈ L, x < 256) : Lib.countByte (Lib.bytesOf (L.map Int.ofNat)) ((0 : Int).toNat.toUInt8) = L.count 0 := by
  unfold Lib.countByte Lib.bytesOf
  induction L with
  | nil => rfl
  | cons x r ih =>
    have hx := h x (by simp)
    have ih' := ih (fun y hy => h y (by simp [hy]))
    by_cases h0 : x = 0
    · subst h0
      simp only [List.map_cons, List.count_cons_self]
      rw [← ih']
      exact List.count_cons_self
    · have hne : UInt8.ofNat ((Int.ofNat x).toNat) ≠ (0 : Int).toNat.toUInt8 := by
        intro e
        have e2 := congrArg UInt8.toNat e
        simp at e2 <;> omega
      simp only [List.map_cons, List.count_cons_of_ne h0]
      rw [← ih']
      exact List.count_cons_of_ne hne
theorem count_run14 {w : World} {v : Value} {L : List Nat} (hR : RdB w v L) : (callFunc 24 #[v, .int .u8 0]).run Try.prog w = .ok (.value (.int .i64 ((L.count 0 : Nat) : Int))) w := by
  rw [run_callFunc_extern Try.func24 (by kernel_rfl) (by kernel_rfl) (by kernel_rfl) (e := Extern.BytealgCount.count) (by kernel_rfl)]
  obtain ⟨p, c, rfl, h2, h3, h4⟩ := hR
  rw [← count_bytes14 L h3]
  have hlen : (L.map Int.ofNat).length = L.length := List.length_map _
  cases p with
  | none =>
    have hl : L = [] := by
      cases L with
      | nil => rfl
      | cons x r => obtain ⟨_, _, h, _⟩ := h4 (by simp); cases h
    subst hl
    rw [Lib.run_countNil]
    rfl
  | some a =>
    by_cases hl : L = []
    · subst hl
      rw [show ([] : List Nat).length = 0 from rfl, Lib.run_countAt w a 0 c [] rfl (fun i h => absurd h (by omega)) 0]
      rfl
    · obtain ⟨b, o, h5, h6, h7⟩ := h4 hl
      cases h5
      rw [Lib.run_countSlice w b o L.length c _ hlen (fun i hi => (h7 i hi).trans (by rw [List.getD_eq_getElem?_getD, List.getD_eq_getElem?_getD, List.getElem?_map, List.getElem?_eq_getElem hi]; rfl)) 0]
      rfl
theorem pcount_any (v : Value) (L : List Nat) (b2 : Nat) (w : World) (hR : RdB w v L) (hB : Blk w b2 5 #[.int .u8 0]) : Calls Try.prog 20 #[v, .slice (some ⟨b2, 0, none⟩) 1 1] w fun e w' => e = .returned (.int .i64 ((L.count 0 : Nat) : Int)) ∧ w' = w := by
  have hr := count_run14 hR
  have hc2 : w.cell? ⟨b2, 0, none⟩ = some (.int .u8 0) := hB.cell rfl
  obtain ⟨p, c, rfl, _⟩ := hR
  generalize ((L.count 0 : Nat) : Int) = r at hr ⊢
  clear hB
  go_enter Try.func20, Try.ntmps20
  go_wp2
  go_ret
  exact ⟨rfl, rfl⟩
section
variable {ops : Array Oper} {rest : List Oper} {o : Oper} {a : Act} {bs : List Nat} {w0 w : World} {Q : Exit → Act → World → Prop} {L : List Ent}
theorem st_build0_14 {n : Nat} {ty t : TypeId} {c : Array Value} {parts : Array (Nat × Operand)} (hS : St bs w0 w L) (vals : Array (Nat × Value)) (hgd : o.guard = none) (ho : o.op = .buildSlice ty n parts)
    (hv : (parts.map fun (i, x) => (i, a.eval x)) = vals) (hr : ∀ w : World, (Instr.buildSlice ty n vals).run Try.prog w = .ok (.slice (some ⟨w.heap.size, 0, none⟩) n n) (w.alloc (.cells c t)))
    (h : ∀ w' b, St bs w0 w' ((b, t, c) :: L) → wpList Try.prog ops Q rest (a.put o.dst (.slice (some ⟨b, 0, none⟩) n n)) w') : wpList Try.prog ops Q (o :: rest) a w :=
  wpList_plain hgd fun K hK => by
    subst hv
    have hr2 := hr w
    unfold Oper.wp execOp
    simp only [ho, Sem.run_bind, hr2, Result.andThen_ok, Sem.run_pure]
    exact hK _ _ (h _ _ (hS.new t c))
end
theorem build0_14 (w : World) : (Instr.buildSlice 26 1 #[(0, .int .u8 0)]).run Try.prog w = .ok (.slice (some ⟨w.heap.size, 0, none⟩) 1 1) (w.alloc (.cells #[.int .u8 0] 5)) := by kernel_rfl
theorem pintrG_any (c : Array Value) (m : Bool) (v : Value) (L : List Nat) (w : World) (h : TxIn w c m v L) (hl : L.length ≤ 4000) : Calls Try.prog 8 #[.agg c] w fun e w' => e = .returned (.int .i64 (intrG m L)) ∧ Tch [] w w' := by
  obtain ⟨_, hm, hv, hR⟩ := h
  have hcl : L.count 0 ≤ L.length := List.count_le_length
  have hd := dataG_count L
  have HP := Lib.hid (fun w' b2 (hT : Tch [] w w') (hB : Blk w' b2 5 #[.int .u8 0]) => pcount_any v L b2 w' (hR.tch hT (by simp)) hB)
  have hS := St.start w
  unfold intrG
  rw [hd]
  clear hd
  obtain ⟨p, cc, rfl, _, _, _⟩ := hR
  generalize L.count 0 = z at *
  generalize L.length = n at *
  cases m
  · have hm2 : makeG false = 21000 := rfl
    rw [hm2]
    clear hm2
    go_enter Try.func8, Try.ntmps8
    go_wp2_with (first
      | (refine st_box hS rfl 28 _ rfl rfl ?_; clear hS; intro w1 b1 hS)
      | (refine st_cell1 (v := .bool false) hS rfl 4 _ rfl rfl (.tail .head) hm bool_agg14 ?_)
      | (refine st_cell1 (v := .slice p n cc) hS rfl 26 _ rfl rfl .head hv bytes_aggI ?_)
      | (refine st_cell1 (v := .slice p n cc) hS rfl 26 _ rfl rfl (.tail .head) hv bytes_aggI ?_)
      | (refine st_build0_14 (parts := #[(0, .const (.int .u8 0))]) hS #[(0, .int .u8 0)] rfl rfl (by simp; rfl) build0_14 ?_; clear hS; intro w2 b2 hS)
      | (go_at_call 20; go_must (refine (HP.out _ _ hS.frame (hS.get .head)).mono ?_; rintro e w4 ⟨rfl, rfl⟩)))
    go_ret
    refine ⟨ret_int ?_, hS.frame⟩
    omega
  · have hm2 : makeG true = 53000 := rfl
    rw [hm2]
    clear hm2
    go_enter Try.func8, Try.ntmps8
    go_wp2_with (first
      | (refine st_box hS rfl 28 _ rfl rfl ?_; clear hS; intro w1 b1 hS)
      | (refine st_cell1 (v := .bool true) hS rfl 4 _ rfl rfl (.tail .head) hm bool_agg14 ?_)
      | (refine st_cell1 (v := .slice p n cc) hS rfl 26 _ rfl rfl .head hv bytes_aggI ?_)
      | (refine st_cell1 (v := .slice p n cc) hS rfl 26 _ rfl rfl (.tail .head) hv bytes_aggI ?_)
      | (refine st_build0_14 (parts := #[(0, .const (.int .u8 0))]) hS #[(0, .int .u8 0)] rfl rfl (by simp; rfl) build0_14 ?_; clear hS; intro w2 b2 hS)
      | (go_at_call 20; go_must (refine (HP.out _ _ hS.frame (hS.get .head)).mono ?_; rintro e w4 ⟨rfl, rfl⟩)))
    go_ret
    refine ⟨ret_int ?_, hS.frame⟩
    omega
end Go.Proofs.Ytbbebejdfgakfaa
