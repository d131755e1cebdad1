/- The root of no pairs, whichever slice holds none. -/
import Derived.Test.YtopfmaoeebgjmaaGreatDoorM01
import Derived.Test.YtopfmaoeebgjmaaGreatDoorM16
import Derived.Lib.SlBytesConst
import Derived.ProofKit
import Derived.OpenShut
import Derived.SizedLaws
set_option linter.unusedVariables false
set_option linter.unusedSimpArgs false
namespace Go.Proofs.YtopfmaoeebgjmaaGreatDoor
section
open Go.RowKit
theorem tooLong_noneP (p0 : Option Addr) (c0 : Nat) (w : World) : Calls Tryz.prog 92 #[.slice p0 0 c0] w fun e w' => e = .returned (.bool false) ∧ w' = w := by
  go_enter Tryz.func92, Tryz.ntmps92
  go_wp2_with (go_at_call 111; refine (hasP_none _ _ _ _).mono ?_; rintro e w' ⟨rfl, rfl⟩)
  go_ret
  exact ⟨rfl, rfl⟩
set_option maxHeartbeats 2000000 in
theorem sorted_noneP (p0 : Option Addr) (c0 : Nat) (w : World) : Calls Tryz.prog 93 #[.slice p0 0 c0] w fun e w' => (∃ p, e = .returned (.slice p 0 0)) ∧ Tch [] w w' := by
  obtain ⟨i, hi, hz, hs, hb⟩ := info_parts entry_info
  have hr := run_makeSlice (P := Tryz.prog) w 176 210 i _ entries_ty hi hz .i64 .i64 0 0 (by omega) (by omega) (by rw [hs]; simp) (by rw [hb]; simp) (by omega)
  rw [hs] at hr
  simp only [Int.toNat_zero, Nat.zero_mul] at hr
  go_enter Tryz.func93, Tryz.ntmps93
  go_wp2
  refine wp_loop_rounds 1 ?_
  rw [rounds_succ]
  go_wp2_with (go_at_call 114; refine (sortE_none _ _ _ _).mono ?_; rintro e w' ⟨rfl, rfl⟩)
  go_ret
  exact ⟨⟨_, rfl⟩, (Tch.refl _ _).alloc _⟩
theorem grow_noneP (p0 : Option Addr) (c0 : Nat) (w : World) : Calls Tryz.prog 68 #[.slice p0 0 c0] w fun e w' => e = .returned (.tuple #[.nilIface, .int .i64 0]) ∧ Tch [] w w' := by
  go_enter Tryz.func68, Tryz.ntmps68
  go_wp2_with (first
    | (go_at_call 92; refine (tooLong_noneP p0 c0 _).mono ?_; rintro e w' ⟨rfl, rfl⟩)
    | (go_at_call 93; refine (sorted_noneP p0 c0 _).mono ?_; rintro e w1 ⟨⟨p, rfl⟩, hT⟩)
    | (go_at_call 94; refine (hasEmpty_none _ _ _).mono ?_; rintro e w' ⟨rfl, rfl⟩)
    | (go_at_call 95; refine (hasTwice_none _ _ _).mono ?_; rintro e w' ⟨rfl, rfl⟩)
    | (go_at_call 96; refine (build_none _ _ _ _).mono ?_; rintro e w' ⟨rfl, rfl⟩))
  go_ret2
  exact ⟨rfl, hT⟩
theorem root_noneP (p0 : Option Addr) (c0 : Nat) (w : World) : Calls Tryz.prog 48 #[.slice p0 0 c0] w fun e w' => e = .returned (.tuple #[.agg (wf (hashN [128])), .int .i64 0]) ∧ Tch [] w w' := by
  have hS := St.start w
  have HE := hQz (fun (w1 : World) => (encode_none (.func (.func 69) #[] #[]) w1).mono fun e w' h => h.rd (by decide))
  go_enter Tryz.func48, Tryz.ntmps48
  go_wp2_with (first
    | (refine st_new hS rfl 25 rfl word_zero ?_; clear hS; intro w1 b1 hS)
    | (go_at_call 68; refine (grow_noneP p0 c0 _).mono ?_; rintro e w2 ⟨rfl, hT⟩; replace hS := hS.call hT; clear hT)
    | (go_at_call 70; refine (HE.out _).mono ?_; rintro e w3 ⟨hT, b, hb, rfl, hr⟩; replace hS := hS.call hT; clear hT)
    | (go_at_call 69; refine (rsum_any _ [128] _ hr (by decide)).mono ?_; rintro e w4 ⟨rfl, hT⟩; replace hS := hS.call hT; clear hT)
    | (refine st_store (b := b1) (c' := wf (hashN [128])) hS rfl 25 _ _ rfl rfl rfl .head word_size (wf_size _) (wf_size _) (wf_one _) ?_; clear hS; intro w5 hS))
  exact post_cell_one 2 3 25 rfl rfl rfl rfl (hS.get .head) word_type rfl word_size (wf_size _) ⟨rfl, hS.frame⟩
end
section
open Go.RowKit
section
variable {ops : Array Oper} {rest : List Oper} {o : Oper} {a : Act} {bs : List Nat} {w0 w w1 : World} {Q : Exit → Act → World → Prop} {L : List Ent}
theorem st_buildC {n : Nat} {ty t : TypeId} {c : Array Value} {parts : Array (Nat × Operand)} (vals : Array (Nat × Value)) (hgd : o.guard = none) (ho : o.op = .buildSlice ty n parts)
    (hv : (parts.map fun (i, x) => (i, a.eval x)) = vals) (hr : ∀ w : World, (Instr.buildSlice ty n vals).run Tryz.prog w = .ok (.slice (some ⟨w.heap.size, 0, none⟩) n n) (w.alloc (.cells c t)))
    (h : ∀ w', w' = w.alloc (.cells c t) → wpList Tryz.prog ops Q rest (a.put o.dst (.slice (some ⟨w.heap.size, 0, none⟩) n n)) w') : wpList Tryz.prog ops Q (o :: rest) a w :=
  wpList_plain hgd fun K hK => by
    subst hv
    have hr2 := hr w
    unfold Oper.wp execOp
    simp only [ho, Sem.run_bind, hr2, Result.andThen_ok, Sem.run_pure]
    exact hK _ _ (h _ rfl)
end
section
variable {P : Program} {ops : Array Oper} {rest : List Oper} {o : Oper} {a : Act} {bs : List Nat} {w0 w : World} {Q : Exit → Act → World → Prop} {L L' : List Ent} {b : Nat} {t : TypeId} {c c' : Array Value}
end
theorem RdB.kept {w w1 w2 : World} {b : Nat} {v : Value} {l : List Nat} (h : RdB w v l) (hT : Tch [] w w1) (hb : w.heap.size ≤ b) (hO : Only b w1 w2) : RdB w2 v l := h.tch (bs := []) (hT.only hO (.inl hb)) (by simp)
section
variable {o : Oper} {a : Act} {ops : Array Oper} {rest : List Oper} {C : World → Prop} {Q : Act → Prop}
end
end
section
open Go.ChangeShapes Go.WideShapes Go.ChangeAt Go.RowKit
theorem byte_cells : Tryz.prog.cellsOf 5 = 1 := by kernel_rfl
theorem byte_bytes : Tryz.prog.bytesOf 5 = 1 := by kernel_rfl
section
variable {H : Type} {enc' : TypeId × Value → H} {w : World}
theorem bytes_trod {fuel : Nat} {cs : List Value} {x : DataW H × List MemPlace} (hf : DataW.trod enc' Tryz.prog w 0 (fun _ => true) true fuel 26 cs = some x) (hw : ∀ n ∈ x.1.weights Tryz.prog 26, n ≤ reachBytes) : ∃ v L, cs = [v] ∧ RdA [] w v L ∧ L.length ≤ reachBytes := by
  rcases open_ints bytes_ty byte_ty byte_cells hf with ⟨hcs, hx⟩ | ⟨a, len, cap, zs, hcs, _, hl, hm, hz, hx, hcell, hwz⟩
  · exact ⟨_, [], hcs, (RdB.nil w).rdA (by simp), by simp⟩
  · simp only [if_true] at hz
    have hrange : ∀ z ∈ zs, 0 ≤ z ∧ z ≤ 255 := fun z hzm => by
      have := hwz z hzm
      simp [Lit.wf, IntKind.min, IntKind.max, IntKind.bits, IntKind.signed] at this
      omega
    have hreach : len ≤ reachBytes := by
      subst hx
      have := hw ((zs.take len).length * 1 + (zs.drop len).length * 1) (by simp [DataW.weights, bytes_ty, lits, byte_bytes])
      simp at this; omega
    refine ⟨_, (zs.take len).map Int.toNat, hcs, ⟨some a, cap, by rw [List.length_map, List.length_take, hz, Nat.min_eq_left hl], by rw [List.length_map, List.length_take]; omega, fun x hx => ?_, fun hne => ?_⟩, by rw [List.length_map, List.length_take]; omega⟩
    · obtain ⟨z, hzm, rfl⟩ := List.mem_map.1 hx
      have := hrange z (List.mem_of_mem_take hzm)
      omega
    · have hlen : 0 < len := by
        rcases Nat.eq_zero_or_pos len with h0 | h0
        · subst h0; simp at hne
        · exact h0
      obtain ⟨b, off, spot⟩ := a
      have hspot : spot = none := by simpa [Addr.add] using World.cell?_spot (hcell 0 (by omega))
      subst hspot
      refine ⟨b, off, rfl, ?_, by simp, fun i hi => ?_⟩
      · have := hcell 0 (by omega)
        exact World.block_lt_of_cell? w _ this
      · rw [List.length_map, List.length_take] at hi
        have hi' : i < zs.length := by omega
        have hc := hcell i hi'
        have hadd : (⟨b, off, none⟩ : Addr).add i = ⟨b, off + i, none⟩ := by unfold Addr.add; split <;> simp_all
        rw [hadd] at hc
        rw [hc]
        have e1 : zs.getD i 0 = zs[i] := by simp [hi']
        have e2 : ((zs.take len).map Int.toNat).getD i 0 = zs[i].toNat := by
          have : i < len := by omega
          simp [this, hi']
        rw [e1, e2, Int.toNat_of_nonneg (hrange _ (List.getElem_mem hi')).1]
set_option maxRecDepth 100000 in
theorem open_bytesA {r : Reach} {b0 : Nat} {v : Value} {d : DataW H} {p : List MemPlace} (hv : Value.okWide Tryz.prog w r b0 26 v) (h : DataW.Trod enc' Tryz.prog w 0 (fun _ => true) true 26 v d p) :
    (∀ n ∈ d.weights Tryz.prog 26, n ≤ reachBytes) → ∃ L, RdA [] w v L ∧ L.length ≤ reachBytes := by
  intro hwt
  obtain ⟨a0, len, cap, rfl⟩ := okWide_slice bytes_ty hv
  obtain ⟨fuel, hf⟩ := h
  obtain ⟨v, L, hcs, hL, hm⟩ := bytes_trod (x := (d, p)) hf hwt
  have : Value.slice a0 len cap = v := by simpa [Value.cells] using hcs
  rw [this]
  exact ⟨L, hL, hm⟩
end
end
end Go.Proofs.YtopfmaoeebgjmaaGreatDoor
