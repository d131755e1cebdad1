/- trie.pack; the closure that hashes; the roots of nothing. -/
import Derived.Test.YthchmnhoombecaaGreatU2
namespace Go.Proofs.YthchmnhoombecaaGreat
open Go.RowKit

theorem st_buildV {ops : Array Oper} {rest : List Oper} {o : Oper} {a : Act} {bs : List Nat} {w0 w : World} {Q : Exit → Act → World → Prop} {L : List Ent} {n : Nat} {ty t : TypeId} {c : Array Value} {parts : Array (Nat × Operand)} (vals : Array (Nat × Value)) (hS : St bs w0 w L) (hgd : o.guard = none) (ho : o.op = .buildSlice ty n parts)
    (hv : (parts.map fun (i, x) => (i, a.eval x)) = vals) (hr : ∀ w : World, (Instr.buildSlice ty n vals).run Tryz.prog w = .ok (.slice (some ⟨w.heap.size, 0, none⟩) n n) (w.alloc (.cells c t)))
    (h : ∀ w' b, St bs w0 w' ((b, t, c) :: L) → wpList Tryz.prog ops Q rest (a.put o.dst (.slice (some ⟨b, 0, none⟩) n n)) w') : wpList Tryz.prog ops Q (o :: rest) a w :=
  wpList_plain hgd fun K hK => by
    subst hv
    have hr2 := hr w
    unfold Oper.wp execOp
    simp only [ho, Sem.run_bind, hr2, Result.andThen_ok, Sem.run_pure]
    exact hK _ _ (h _ _ (hS.new t c))
theorem buildB1 (p1 : Option Addr) (n1 c1 : Nat) (w : World) : (Instr.buildSlice 131 1 #[(0, .slice p1 n1 c1)]).run Tryz.prog w = .ok (.slice (some ⟨w.heap.size, 0, none⟩) 1 1) (w.alloc (.cells #[.slice p1 n1 c1] 31)) := by kernel_rfl
theorem buildU1 (x : Int) (w : World) : (Instr.buildSlice 31 1 #[(0, .int .u8 x)]).run Tryz.prog w = .ok (.slice (some ⟨w.heap.size, 0, none⟩) 1 1) (w.alloc (.cells #[.int .u8 x] 5)) := by kernel_rfl
theorem packpost_ok {it : It} {w w' : World} {e : Ending} (h : dep it ≤ 32 ∧ (enc it).length ≤ 16777216) (hp : PackPost it w e w') : Tch [] w w' ∧ ∃ b, w.heap.size ≤ b ∧ e = .returned (.tuple #[.slice (some ⟨b, 0, none⟩) (enc it).length (enc it).length, .int .i64 0]) ∧ Blk w' b 5 (bc (enc it).length fun i => (enc it).getD i 0) := by
  unfold PackPost at hp; rwa [if_pos h] at hp
/-- What trie.pack answers. -/
def PkV (l : List Nat) (w : World) (e : Ending) (w' : World) : Prop :=
  Tch [] w w' ∧ ∃ b, w.heap.size ≤ b ∧ e = .returned (.slice (some ⟨b, 0, none⟩) l.length l.length) ∧ Blk w' b 5 (bc l.length fun i => l.getD i 0)
set_option maxHeartbeats 1000000 in
theorem tpack_any (k : Nat) (x0 vb vl : Value) (it : It) (w : World) (hit : ItC [] w k x0 vb vl it) (h : dep it ≤ 32 ∧ (enc it).length ≤ 16777216) :
    Calls Tryz.prog 87 #[.agg #[x0, vb, vl]] w (PkV (enc it) w) := by
  have hS := St.start w
  obtain ⟨d, hd⟩ := item_ty
  have hcall := fun (w1 : World) (hT : Tch [] w w1) => (pack_any k x0 vb vl it w1 (hit.tch hT)).mono fun e w' hp => packpost_ok h hp
  generalize enc it = L at hcall ⊢
  have HC := Lib.hid hcall
  clear hcall hit h
  go_enter Tryz.func87, Tryz.ntmps87
  go_wp2_with (first
    | (refine st_box hS rfl 109 _ rfl rfl ?_; clear hS; intro w1 b1 hS)
    | (refine st_load (b := b1) hS rfl 109 _ rfl rfl .head hd rfl item_sizeT rfl ?_)
    | (go_at_call 52; refine (HC.out _ hS.frame).mono ?_; rintro e w2 ⟨hT, b, hb, rfl, hB⟩))
  go_ret
  exact ⟨hS.frame.trans hT, b, Nat.le_trans hS.frame.size hb, rfl, hB⟩
theorem PkV.rd {l : List Nat} {w w' : World} {e : Ending} (h : PkV l w e w') (hl : ∀ x ∈ l, x < 256) : Tch [] w w' ∧ ∃ b, w.heap.size ≤ b ∧ e = .returned (.slice (some ⟨b, 0, none⟩) l.length l.length) ∧ RdB w' (.slice (some ⟨b, 0, none⟩) l.length l.length) l := by
  obtain ⟨h1, b, h2, h3, h4⟩ := h
  exact ⟨h1, b, h2, h3, (RdA.ofBlk (X := []) h4 hl (by simp)).rdB⟩
/-- The closure that hashes. -/
theorem rsum_any (v : Value) (l : List Nat) (w : World) (hv : RdB w v l) (hl : l.length < 1000000) :
    Calls Tryz.prog 58 #[v] w fun e w' => e = .returned (.agg (wf (hashN l))) ∧ Tch [] w w' := by
  have hS := St.start w
  obtain ⟨pa, n, ca, rfl⟩ : ∃ p n c, v = .slice p n c := ⟨_, _, _, hv.choose_spec.choose_spec.1⟩
  have HC := Lib.hid (fun (w1 : World) (b : Nat) (hT : Tch [] w w1) (hB : Blk w1 b 31 #[.slice pa n ca]) => sum_one b _ l w1 (hB.cell (j := 0) rfl) hB.lt (hv.tch hT (by simp)) hl)
  clear hv hl
  go_enter Tryz.func58, Tryz.ntmps58
  go_wp2_with (first
    | (refine st_new hS rfl 35 rfl word_zero ?_; clear hS; intro w1 b1 hS)
    | (refine st_buildV #[(0, .slice pa n ca)] hS rfl rfl (by simp only [List.map_toArray, List.map_cons, List.map_nil]; rfl) (buildB1 _ _ _) ?_; clear hS; intro w2 b2 hS)
    | (go_at_call 51; refine (HC.out _ _ hS.frame (hS.get .head)).mono ?_; rintro e w3 ⟨rfl, hT⟩; replace hS := hS.call hT; clear hT)
    | (refine st_store (b := b1) (c' := wf (hashN l)) hS rfl 35 _ _ rfl rfl rfl (.tail .head) word_size (wf_size _) (wf_size _) (wf_one _) ?_; clear hS; intro w4 hS))
  exact st_post hS 2 35 rfl rfl rfl (.tail .head) word_type rfl word_size (wf_size _) (fun hT => ⟨rfl, hT⟩)
theorem enc_empty : enc (.str []) = [128] := by rw [enc_str]; decide
theorem dep_empty : dep (.str []) = 0 := dep_str _
theorem itc_empty (w : World) : ItC [] w 1 (.bool false) (.slice none 0 0) (.slice none 0 0) (.str []) := by
  unfold ItC
  exact ⟨rfl, (RdB.nil w).rdA (by simp), by simp⟩
theorem encode_none (fv : Value) (w : World) : Calls Tryz.prog 59 #[.nilIface, fv] w (PkV [128] w) := by
  have HC := Lib.hid (fun (w1 : World) => tpack_any 1 _ _ _ _ w1 (itc_empty w1) (by rw [enc_empty, dep_empty]; simp))
  rw [enc_empty] at HC
  go_enter Tryz.func59, Tryz.ntmps59
  go_wp2_with (first
    | (go_at_call 88; refine (item_none _ _).mono ?_; rintro e w1 ⟨rfl, hT1⟩)
    | (go_at_call 87; refine (HC.out w1).mono ?_; rintro e w2 ⟨hT, b, hb, rfl, hB⟩))
  go_ret
  exact ⟨hT1.trans hT, b, Nat.le_trans hT1.size hb, rfl, hB⟩
set_option maxHeartbeats 1000000 in
theorem root_none (w : World) : Calls Tryz.prog 41 #[.slice none 0 0] w fun e w' => e = .returned (.tuple #[.agg (wf (hashN [128])), .int .i64 0]) ∧ Tch [] w w' := by
  have hS := St.start w
  have HE := Lib.hid (fun (w1 : World) => (encode_none (.func (.func 58) #[] #[]) w1).mono fun e w' h => h.rd (by decide))
  go_enter Tryz.func41, Tryz.ntmps41
  go_wp2_with (first
    | (refine st_new hS rfl 35 rfl word_zero ?_; clear hS; intro w1 b1 hS)
    | (go_at_call 57; refine (grow_none _).mono ?_; rintro e w2 ⟨rfl, hT⟩; replace hS := hS.call hT; clear hT)
    | (go_at_call 59; refine (HE.out _).mono ?_; rintro e w3 ⟨hT, b, hb, rfl, hr⟩; replace hS := hS.call hT; clear hT)
    | (go_at_call 58; refine (rsum_any _ [128] _ hr (by decide)).mono ?_; rintro e w4 ⟨rfl, hT⟩; replace hS := hS.call hT; clear hT)
    | (refine st_store (b := b1) (c' := wf (hashN [128])) hS rfl 35 _ _ rfl rfl rfl .head word_size (wf_size _) (wf_size _) (wf_one _) ?_; clear hS; intro w5 hS))
  exact post_cell_one 2 3 35 rfl rfl rfl rfl (hS.get .head) word_type rfl word_size (wf_size _) ⟨rfl, hS.frame⟩
set_option maxHeartbeats 1000000 in
theorem emptyRoot_any (w : World) : Calls Tryz.prog 26 #[] w fun e w' => e = .returned (.agg (wf (hashN [128]))) ∧ Tch [] w w' := by
  have hS := St.start w
  go_enter Tryz.func26, Tryz.ntmps26
  go_wp2_with (first
    | (refine st_new (L := []) hS rfl 35 rfl word_zero ?_; clear hS; intro w1 b1 hS)
    | (go_at_call 41; refine (root_none _).mono ?_; rintro e w2 ⟨rfl, hT⟩; replace hS := hS.call hT; clear hT)
    | (refine st_new hS rfl 35 rfl word_zero ?_; clear hS; intro w3 b3 hS)
    | (refine st_store (b := b3) (c' := wf (hashN [128])) hS rfl 35 _ _ rfl rfl rfl .head word_size (wf_size _) (wf_size _) (wf_one _) ?_; clear hS; intro w4 hS)
    | (refine st_load (b := b3) hS rfl 35 _ rfl rfl .head word_type rfl word_size (wf_size _) ?_)
    | (refine st_store (b := b1) (c' := wf (hashN [128])) hS rfl 35 _ _ rfl rfl rfl (.tail .head) word_size (wf_size _) (wf_size _) (wf_one _) ?_; clear hS; intro w5 hS))
  exact st_post hS 0 35 rfl rfl rfl (.tail .head) word_type rfl word_size (wf_size _) (fun hT => ⟨rfl, hT⟩)
set_option maxHeartbeats 1000000 in
theorem refEmpty_any (w : World) : Calls Tryz.prog 20 #[] w fun e w' => e = .returned (.agg (wf (hashN [128]))) ∧ Tch [] w w' := by
  have hS := St.start w
  go_enter Tryz.func20, Tryz.ntmps20
  go_wp2_with (first
    | (refine st_new hS rfl 35 rfl word_zero ?_; clear hS; intro w1 b1 hS)
    | (refine st_buildV #[(0, .int .u8 128)] hS rfl rfl (by simp only [List.map_toArray, List.map_cons, List.map_nil]; rfl) (buildU1 _) ?_; clear hS; intro w2 b2 hS)
    | (go_at_call 34; refine (keccak_rd _ [128] _ (RdB.blk (n := 1) (f := fun _ => 128) (hS.get .head) (by simp)) (by decide)).mono ?_; rintro e w3 ⟨rfl, hT⟩; replace hS := hS.call hT; clear hT)
    | (refine st_store (b := b1) (c' := wf (hashN [128])) hS rfl 35 _ _ rfl rfl rfl (.tail .head) word_size (wf_size _) (wf_size _) (wf_one _) ?_; clear hS; intro w4 hS))
  exact st_post hS 0 35 rfl rfl rfl (.tail .head) word_type rfl word_size (wf_size _) (fun hT => ⟨rfl, hT⟩)
end Go.Proofs.YthchmnhoombecaaGreat
