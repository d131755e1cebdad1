/- The document's Text. -/
import Derived.Test.YtanmpcgackfpaaaGreatM01
import Derived.Test.YtanmpcgackfpaaaGreatM02
import Derived.Test.YtanmpcgackfpaaaGreatM09
import Derived.Lib.SlBytesConst
import Derived.Deep.RegionLawGrows
import Derived.Deep.AppendLies
import Derived.Laws.CopyOwn
import Derived.RangeFuncNested
import Derived.RangeFuncBound
import Derived.RangeFuncCalls
import Derived.RangeFuncLeaves
import Derived.Shelf.Abstract
import Derived.Shelf.RegionOpen
import Derived.OwnWalkIn
import Derived.TacticsInMore
import Derived.LoopNIn
import Derived.LoopIn
set_option linter.unusedVariables false
set_option linter.unusedSimpArgs false
namespace Go.Proofs.YtanmpcgackfpaaaGreat
section
open Go.RowKit
def hch (v : Nat) : UInt8 := if v < 10 then UInt8.ofNat (48 + v) else UInt8.ofNat (87 + v)
def hexOf (L : List Nat) : List UInt8 := L.flatMap fun x => [hch (x / 16), hch (x % 16)]
theorem hexOf_snoc (L : List Nat) (x : Nat) : hexOf (L ++ [x]) = hexOf L ++ [hch (x / 16), hch (x % 16)] := by simp [hexOf]
theorem hexOf_length (L : List Nat) : (hexOf L).length = 2 * L.length := by
  induction L with
  | nil => rfl
  | cons x L ih =>
    have : hexOf (x :: L) = [hch (x / 16), hch (x % 16)] ++ hexOf L := rfl
    rw [this, List.length_append, ih, List.length_cons, List.length_cons, List.length_cons, List.length_nil]; omega
theorem digit_at (k : Nat) (h : k < 16) : ((⟨#[48, 49, 50, 51, 52, 53, 54, 55, 56, 57, 97, 98, 99, 100, 101, 102]⟩ : ByteArray)[k]'h).toNat = (hch k).toNat := by
  have all : ∀ j : Fin 16, ((⟨#[48, 49, 50, 51, 52, 53, 54, 55, 56, 57, 97, 98, 99, 100, 101, 102]⟩ : ByteArray)[j.val]'j.isLt).toNat = (hch j.val).toNat := by decide +kernel
  exact all ⟨k, h⟩
def txt (L : List Nat) : List UInt8 := 48 :: 120 :: hexOf L
theorem txt_length (L : List Nat) : (txt L).length = 2 + 2 * L.length := by unfold txt; rw [List.length_cons, List.length_cons, hexOf_length]; omega
theorem txt_snoc (L : List Nat) (x : Nat) : Lib.byteCells (txt (L ++ [x])) = (Lib.byteCells (txt L) ++ [.int .u8 ((hch (x / 16)).toNat : Int)]) ++ [.int .u8 ((hch (x % 16)).toNat : Int)] := by
  simp [txt, hexOf_snoc, Lib.byteCells]
theorem ktake_snoc (L : List Nat) (k : Nat) (h : k < L.length) : L.take (k + 1) = L.take k ++ [L.getD k 0] := by
  rw [List.take_succ_eq_append_getElem h]; simp [h]
theorem byteCells_get (l : List UInt8) (j : Nat) (h : j < l.length) : (Lib.byteCells l)[j]? = some (.int .u8 ((l[j]).toNat : Int)) := by simp [Lib.byteCells, h]
theorem conv_own {w : World} {B : Nat} {v : Value} {l : List UInt8} (h : w.ownsRow B 5 1 v l.length (Lib.byteCells l)) : (convert 23 9 v).run Tryz.prog w = .ok (.string ⟨l.toArray⟩) w := by
  obtain ⟨_, h2⟩ := h
  rcases h2 with ⟨rfl, h0⟩ | ⟨g, cap, cur, rfl, _, hb, _, _, _, htk⟩
  · have : l = [] := List.length_eq_zero_iff.1 h0
    subst this
    rw [run_convert_bytes_string w 23 9 5 none _ 0 qb5 qk9 string_ty]; rfl
  · refine run_convert_bytes_back (P := Tryz.prog) w 23 9 5 ⟨g, 0, none⟩ cap l qb5 qk9 string_ty (fun j hj => ?_)
    have hadd : (⟨g, 0, none⟩ : Addr).add j = ⟨g, j, none⟩ := by unfold Addr.add; split <;> simp_all
    have hB : Blk w g 5 cur → w.cell? ⟨g, j, none⟩ = cur[j]? := fun _ => by rw [Lib.cell_of_heap hb]
    rw [hadd, Lib.cell_of_heap hb]
    have e := congrArg (fun x => x[j]?) htk
    simp only [Nat.mul_one, List.getElem?_take, hj, if_true, byteCells_get l j hj] at e
    simpa using e
def TxtAt (B k : Nat) (L : List Nat) (o : Value) (w : World) : Prop :=
  (k = 0 ∧ o = .slice (some ⟨B, 0, none⟩) 2 2 ∧ w.heap[B]? = some (.cells #[.int .u8 48, .int .u8 120] 5 (2, 3))) ∨ (0 < k ∧ w.ownsRow B 5 1 o (2 + 2 * k) (Lib.byteCells (txt (L.take k))))
theorem ownsRow_mono {w : World} {B B' n : Nat} {e : TypeId} {size : Nat} {v : Value} {xs : List Value} (h : w.ownsRow B' e size v n xs) (hB : B ≤ B') : w.ownsRow B e size v n xs := by
  refine ⟨h.1, ?_⟩
  rcases h.2 with h0 | ⟨g, cap, cur, hv, hg, rest⟩
  · exact .inl h0
  · exact .inr ⟨g, cap, cur, hv, by omega, rest⟩
theorem TxtAt.conv {B : Nat} {L : List Nat} {o : Value} {w : World} (h : TxtAt B L.length L o w) : (convert 23 9 o).run Tryz.prog w = .ok (.string ⟨(txt L).toArray⟩) w := by
  rcases h with ⟨h0, rfl, hb⟩ | ⟨_, hown⟩
  · have : L = [] := List.length_eq_zero_iff.1 h0
    subst this
    exact run_convert_bytes_back (P := Tryz.prog) w 23 9 5 ⟨B, 0, none⟩ 2 [48, 120] qb5 qk9 string_ty (fun j hj => by
      have hadd : (⟨B, 0, none⟩ : Addr).add j = ⟨B, j, none⟩ := by unfold Addr.add; split <;> simp_all
      rw [hadd, Lib.cell_of_heap hb]
      match j, hj with
      | 0, _ => rfl
      | 1, _ => rfl)
  · rw [List.take_length] at hown
    rw [show 2 + 2 * L.length = (txt L).length from (txt_length L).symm] at hown
    exact conv_own hown
theorem old_cells {w : World} {B : Nat} (hrow : w.heap[B]? = some (.cells #[.int .u8 48, .int .u8 120] 5 (2, 3))) (hlt : B < w.heap.size) {o : Obj} (j : Nat) (u : Value) (hu : ([.int .u8 48, .int .u8 120] : List Value)[j]? = some u) : (w.alloc o).drew.cell? ((⟨B, 0, none⟩ : Addr).add j) = some u := by
  have hadd : (⟨B, 0, none⟩ : Addr).add j = ⟨B, j, none⟩ := by unfold Addr.add; split <;> simp_all
  have h2 : (w.alloc o).drew.heap[B]? = some (.cells #[.int .u8 48, .int .u8 120] 5 (2, 3)) := (Below.heap_alloc w _ B hlt).trans hrow
  rw [hadd, Lib.cell_of_heap h2]
  simpa using hu
theorem and_low (x : Nat) (h : x < 256) : bits BinOp.and IntKind.u8 (x : Int) 15 = ((x % 16 : Nat) : Int) := by
  have all : ∀ a : Fin 256, bits BinOp.and IntKind.u8 (a.val : Int) 15 = ((a.val % 16 : Nat) : Int) := by decide +kernel
  exact all ⟨x, h⟩
set_option maxHeartbeats 4000000 in
set_option maxRecDepth 100000 in
theorem refText_any (v : Value) (L : List Nat) (w : World) (hm : L.length ≤ 1000000) (hv : RdB w v L) :
    Calls Tryz.prog 20 #[v] w fun e w' => e = .returned (.string ⟨(txt L).toArray⟩) ∧ Tch [] w w' := by
  obtain ⟨i0, hi, hz0, hz1, hz2⟩ := info_parts A_info
  obtain ⟨p, c, rfl, hc, hL, hcell⟩ := hv
  have HC := hQz (And.intro hL hcell)
  have kc := fun (w : World) (C : Array Value) (n c : Nat) => Lib.run_convert_bytes_const (P := Tryz.prog) w 23 5 C n c qb5 qk9
  clear hL hcell
  go_enter Tryz.func20, Tryz.ntmps20
  go_wp2
  clear kc
  go_loopw [3, 4] (fun o i wr => ∃ k : Nat, k ≤ L.length ∧ i = .int .i64 (k : Int) ∧ TxtAt w.heap.size k L o wr ∧ Below w.heap.size w wr) (fun _ i _ => L.length - (intOf i).toNat)
  case atStart => exact ⟨0, by omega, rfl, .inl ⟨rfl, rfl, Go.heap_alloc_new w _⟩, (Below.refl _ _).alloc (Nat.le_refl _) _⟩
  case round =>
    obtain ⟨k, hk, rfl, hown, hb⟩ := hrel
    by_cases hlt : k < L.length
    · obtain ⟨pb, o, rfl, hpb, hcells⟩ := HC.out.2 (by intro h; rw [h] at hlt; simp at hlt)
      have hcell : wr.cell? ⟨pb, o + k, none⟩ = some (.int .u8 ((L.getD k 0 : Nat) : Int)) := (hb.cell (p := ⟨pb, o + k, none⟩) hpb).trans (hcells k hlt)
      have hx := getD_lt HC.out.1 k
      have hpr := hb.size
      have hts := hQz (txt_snoc (L.take k) (L.getD k 0))
      have hts2 := hQz (ktake_snoc L k hlt)
      clear hcells
      generalize L.getD k 0 = x at *
      have h16 : x / 16 < 16 := by omega
      have h16b : x % 16 < 16 := by omega
      have hd1 := digit_at (x / 16) h16
      have hd2 := digit_at (x % 16) h16b
      have hki : (k : Int) < (L.length : Int) := by omega
      have hki0 : (0 : Int) ≤ (k : Int) := by omega
      have hand := and_low x hx
      have hm0 : (0 : Int) ≤ ((x % 16 : Nat) : Int) := by omega
      have hm1 : ((x % 16 : Nat) : Int) < 16 := by omega
      have hn1 : ((x : Int) / 16).toNat = x / 16 := by omega
      have hn2 : ((x : Int) % 16).toNat = x % 16 := by omega
      clear hx
      rcases hown with ⟨hk00, rfl, hrow⟩ | ⟨hk0, hown⟩
      · have hne : w.heap.size ≠ pb := by omega
        have HK0 := hQz hk00
        clear hk00
        have hlen : w.heap.size < wr.heap.size := (Array.getElem?_eq_some_iff.1 hrow).1
        go_wp2
        go_region_held3 (fun w' => w'.cell? ⟨pb, o + k, none⟩ = some (.int .u8 (x : Int)))
          (first
            | go_keep
            | (go_split_ands
               (rw [hgrow.cell_far _ (by simp; omega) (by simp)]; assumption)))
          ((refine step_append_grows (by rfl) _ _ _ (by rfl) 5 i0 _ 1 1 qb5 hi hz0 hz1 hz2 rfl (by omega) (some ⟨w.heap.size, 0, none⟩) 2 2 [.int .u8 48, .int .u8 120] (by rfl) (by intro h; cases h) (by rfl) (fun b hb j u hu => by cases hb; exact old_cells hrow hlen j u hu) ⟨wr.heap.size, 0, none⟩ 2 2 [.int .u8 ((hch (x / 16)).toNat : Int), .int .u8 ((hch (x % 16)).toNat : Int)] (by rfl) (by rfl) (World.news_of_block (cs := #[.int .u8 ((hch (x / 16)).toNat : Int), .int .u8 ((hch (x % 16)).toNat : Int)]) (t := 5) (fr := (0, 0)) (heap_alloc_new wr (.cells #[.int .u8 ((hch (x / 16)).toNat : Int), .int .u8 ((hch (x % 16)).toNat : Int)] 5))) (by simp [Value.oneCell']) (by omega) (by unfold maxLen; omega) (by omega) ?_; intro v1 w1 hown1 hgrow))
        all_goals
          have hnew : TxtAt w.heap.size (k + 1) L v1 w1 := .inr ⟨by omega, by
            rw [hts2.out, hts.out]
            have h0 := HK0.out
            subst h0
            rw [List.append_assoc]
            exact ownsRow_mono hown1 (by simp; omega)⟩
          have hb2 : Below w.heap.size w w1 := ((hb.alloc hb.size _).drew).grown hgrow (by simp; omega) (fun g hg => by cases hg)
          clear hown1 hgrow hcell hd1 hd2 hand hm0 hm1 hn1 hn2 hrow
          go_wp2
          go_roundw
          case rel => exact ⟨k + 1, by omega, by go_num, hnew, hb2⟩
          case measure => simp [intOf]; omega
      · have hne : u3.ownBlock ≠ some pb := fun e => by have := (hown.lt pb e).1; omega
        go_wp2
        go_region_held3 (fun w' => w'.cell? ⟨pb, o + k, none⟩ = some (.int .u8 (x : Int)))
          (first
            | go_keep
            | (go_split_ands
               (rw [hgrow.cell_far _ (by simp; omega) (Ne.symm hne)]; assumption)))
          ((refine step_append_lies _ (by rfl) _ _ _ (by rfl) w.heap.size 5 i0 _ 1 1 qb5 hi hz0 hz1 hz2 rfl (by omega) u3 (2 + 2 * k) _ (by rfl) ((hown.alloc _).drew) ⟨wr.heap.size, 0, none⟩ 2 2 [.int .u8 ((hch (x / 16)).toNat : Int), .int .u8 ((hch (x % 16)).toNat : Int)] (by rfl) (by rfl) (World.news_of_block (cs := #[.int .u8 ((hch (x / 16)).toNat : Int), .int .u8 ((hch (x % 16)).toNat : Int)]) (t := 5) (fr := (0, 0)) (heap_alloc_new wr (.cells #[.int .u8 ((hch (x / 16)).toNat : Int), .int .u8 ((hch (x % 16)).toNat : Int)] 5))) (by simp [Value.oneCell']) (by omega) (by unfold maxLen; omega) (by omega) (by simp; omega) (wr.heap.size + 1) (by simp) ?_; intro gg cap w1 hown1 hgrow hat hlt1))
        all_goals
          have hnew : TxtAt w.heap.size (k + 1) L (.slice (some ⟨gg, 0, none⟩) (2 + 2 * k + 2) cap) w1 := .inr ⟨by omega, by rw [hts2.out, hts.out, List.append_assoc]; exact hown1⟩
          have hb2 : Below w.heap.size w w1 := ((hb.alloc hb.size _).drew).grown hgrow (by simp; omega) (fun g hg => (hown.lt g hg).1)
          clear hown1 hgrow hat hlt1 hcell hd1 hd2 hand hm0 hm1 hn1 hn2
          go_wp2
          go_roundw
          case rel => exact ⟨k + 1, by omega, by go_num, hnew, hb2⟩
          case measure => simp [intOf]; omega
    · obtain rfl : k = L.length := by omega
      have hcv := hown.conv
      go_wp2
      go_ret
      exact ⟨rfl, Tch.of_below hb⟩
end
section
open Go.RowKit
theorem RdB.part {w : World} {v : Value} {l : List Nat} (h : RdB w v l) (hl : l.length < 1000000) : PartAt w v l := by
  obtain ⟨p, c, h1, h2, h3, h4⟩ := h
  refine ⟨p, c, h1, h2, hl, h3, fun hn => ?_⟩
  obtain ⟨b, o, h5, h6, h7⟩ := h4 hn
  exact ⟨b, o, h5, h6, fun i hi => ⟨h7 i hi, getD_lt h3 i⟩⟩
theorem cat_list : ∀ (ls : List (List Nat)) (n : Nat), n ≤ ls.length → cat (fun i => ls.getD i []) n = (ls.take n).flatten
  | ls, 0, _ => by simp [cat]
  | ls, n + 1, h => by
    show cat _ n ++ ls.getD n [] = _
    rw [cat_list ls n (by omega), List.take_succ_eq_append_getElem (show n < ls.length by omega), List.flatten_append]
    simp [List.getD_eq_getElem?_getD, List.getElem?_eq_getElem (show n < ls.length by omega)]
theorem sum_parts (bl : Nat) (ls : List (List Nat)) (w : World) (hn : ls.length < 1000000) (hlt : bl < w.heap.size) (h : ∀ i, i < ls.length → ∃ v, w.cell? ⟨bl, i, none⟩ = some v ∧ RdB w v (ls.getD i []) ∧ (ls.getD i []).length < 1000000) (c : Nat) :
    Calls Tryz.prog 24 #[.slice (some ⟨bl, 0, none⟩) ls.length c] w fun e w' => e = .returned (.agg (wf (hashN ls.flatten))) ∧ Tch [] w w' := by
  have := sum_any bl 0 ls.length c (fun i => ls.getD i []) w hn (fun _ => hlt) (fun i hi => by
    obtain ⟨v, h1, h2, h3⟩ := h i hi
    exact ⟨v, by rw [Nat.zero_add]; exact h1, h2.part h3⟩) (some ⟨bl, 0, none⟩) (fun _ => rfl)
  rw [cat_list ls ls.length (Nat.le_refl _), List.take_length] at this
  exact this
theorem sum_one (bl : Nat) (v : Value) (l : List Nat) (w : World) (hc : w.cell? ⟨bl, 0, none⟩ = some v) (hlt : bl < w.heap.size) (hv : RdB w v l) (hl : l.length < 1000000) :
    Calls Tryz.prog 24 #[.slice (some ⟨bl, 0, none⟩) 1 1] w fun e w' => e = .returned (.agg (wf (hashN l))) ∧ Tch [] w w' := by
  have := sum_parts bl [l] w (show 1 < 1000000 by decide) hlt (fun i hi => by
    obtain rfl : i = 0 := by simpa using hi
    exact ⟨v, hc, hv, hl⟩) 1
  simpa using this
theorem hash_rd {w : World} {b : Nat} {t : TypeId} (l : List Nat) (h : Blk w b t (wf (hashN l))) : RdB w (.slice (some ⟨b, 0, none⟩) 32 32) ((List.range 32).map (hashN l)) := by
  rw [← bc_wf] at h
  exact RdB.blk h (fun i _ => qj2 _ i)
theorem slice_all {P : Program} {ty n e b : Nat} (hu : P.underlying ty = some (.array n e)) (he : (P.info? e).map (·.size) = some 1) (hn : n ≠ 0) (w : World) :
    (Instr.sliceAt ty (.pointer (some ⟨b, 0, none⟩)) none none none).run P w = .ok (.slice (some ⟨b, 0, none⟩) n n) w := by
  have hadd : (⟨b, 0, none⟩ : Addr).add (0 * 1) = ⟨b, 0, none⟩ := rfl
  have h1 : (sizeOf e).run P w = .ok 1 w := by
    cases hq : P.info? e with
    | none => simp [hq] at he
    | some i =>
      have hs : i.size = 1 := by simpa [hq] using he
      simp [sizeOf, typeInfo, hq, hs]
  simp only [Instr.sliceAt, Sem.run_bind, run_underlying hu w, Result.andThen_ok, Instr.sureAddr, Instr.sliceBounds, Sem.run_pure, h1, hadd, if_false, hn, Nat.sub_zero]
theorem slice_word (b : Nat) (w : World) : (Instr.sliceAt 32 (.pointer (some ⟨b, 0, none⟩)) none none none).run Tryz.prog w = .ok (.slice (some ⟨b, 0, none⟩) 32 32) w := slice_all qc7 qb6 (by decide) w
theorem k_slw {o : Oper} {a : Act} {ops : Array Oper} {rest : List Oper} {C : World → Prop} {Q : Act → Prop} {b : Nat} (hw : Region.wanted o (yielded ops a.tmps) = true) (x : Operand) (ho : o.op = .slice 32 x none none none) (hx : a.eval x = .pointer (some ⟨b, 0, none⟩))
    (h : KQ ops C Q rest (a.put o.dst (.slice (some ⟨b, 0, none⟩) 32 32))) : KQ ops C Q (o :: rest) a :=
  qd6 hw (fun w => by unfold execOp; simp only [ho, hx, Option.map_none]; show Sem.run _ _ w = _; simp only [Sem.run_bind, slice_word b w, Result.andThen_ok]; rfl) h
end
section
open Go.RowKit
def PcV (X : List Nat) (w : World) : Nat → Value → It → Prop
  | 0, _, _ => False
  | _ + 1, v, .str l => if single l then v = .iface 212 (.int .u8 ((l.getD 0 0 : Nat) : Int)) else ∃ s, v = .iface 214 s ∧ RdA X w s l
  | k + 1, v, .lst l => ∃ p c, v = .iface 219 (.slice p l.length c) ∧ l.length ≤ c ∧ (l ≠ [] → ∃ b o, p = some ⟨b, o, none⟩ ∧ b < w.heap.size ∧ b ∉ X ∧ ∀ i (h : i < l.length), ∃ u, w.cell? ⟨b, o + i, none⟩ = some u ∧ PcV X w k u l[i])
theorem PcV.tch {X : List Nat} {w w' : World} (hT : Tch X w w') : ∀ {k : Nat} {v : Value} {t : It}, PcV X w k v t → PcV X w' k v t
  | 0, _, _, h => h.elim
  | _ + 1, v, .str l, h => by
    unfold PcV at h ⊢
    split
    · rename_i h1; rw [if_pos h1] at h; exact h
    · rename_i h1; rw [if_neg h1] at h
      obtain ⟨s, h2, h3⟩ := h
      exact ⟨s, h2, h3.tch hT⟩
  | k + 1, v, .lst l, h => by
    unfold PcV at h ⊢
    obtain ⟨p, c, h1, h2, h3⟩ := h
    refine ⟨p, c, h1, h2, fun hl => ?_⟩
    obtain ⟨b, o, h4, h5, h6, h7⟩ := h3 hl
    refine ⟨b, o, h4, Nat.lt_of_lt_of_le h5 hT.size, h6, fun i hi => ?_⟩
    obtain ⟨u, h8, h9⟩ := h7 i hi
    exact ⟨u, by rw [hT.cell (p := ⟨b, o + i, none⟩) h5 h6]; exact h8, PcV.tch hT h9⟩
theorem PcV.mono {X Y : List Nat} {w : World} (hX : ∀ y ∈ Y, y ∈ X ∨ w.heap.size ≤ y) : ∀ {k : Nat} {v : Value} {t : It}, PcV X w k v t → PcV Y w k v t
  | 0, _, _, h => h.elim
  | _ + 1, v, .str l, h => by
    unfold PcV at h ⊢
    split
    · rename_i h1; rw [if_pos h1] at h; exact h
    · rename_i h1; rw [if_neg h1] at h
      obtain ⟨s, h2, h3⟩ := h
      exact ⟨s, h2, h3.mono hX⟩
  | k + 1, v, .lst l, h => by
    unfold PcV at h ⊢
    obtain ⟨p, c, h1, h2, h3⟩ := h
    refine ⟨p, c, h1, h2, fun hl => ?_⟩
    obtain ⟨b, o, h4, h5, h6, h7⟩ := h3 hl
    refine ⟨b, o, h4, h5, fun hm => (hX _ hm).elim h6 (fun h => by omega), fun i hi => ?_⟩
    obtain ⟨u, h8, h9⟩ := h7 i hi
    exact ⟨u, h8, PcV.mono hX h9⟩
theorem PcV.up {X : List Nat} {w : World} : ∀ {k j : Nat} {v : Value} {t : It}, k ≤ j → PcV X w k v t → PcV X w j v t
  | 0, _, _, _, _, h => h.elim
  | _ + 1, 0, _, _, hj, _ => by omega
  | _ + 1, _ + 1, v, .str l, _, h => by unfold PcV at h ⊢; exact h
  | k + 1, j + 1, v, .lst l, hj, h => by
    unfold PcV at h ⊢
    obtain ⟨p, c, h1, h2, h3⟩ := h
    refine ⟨p, c, h1, h2, fun hl => ?_⟩
    obtain ⟨b, o, h4, h5, h6, h7⟩ := h3 hl
    refine ⟨b, o, h4, h5, h6, fun i hi => ?_⟩
    obtain ⟨u, h8, h9⟩ := h7 i hi
    exact ⟨u, h8, PcV.up (by omega) h9⟩
theorem single_one {l : List Nat} (h : single l = true) : l = [l.getD 0 0] ∧ l.getD 0 0 < 128 := by
  match l, h with
  | [x], h => exact ⟨rfl, by simpa [single] using h⟩
theorem taSS (v : Value) (w : World) : (Instr.typeAssert (.iface 212 v) 191 212 true).run Tryz.prog w = .ok (.tuple #[v, .bool true]) w := by kernel_rfl
theorem taTS (v : Value) (w : World) : (Instr.typeAssert (.iface 214 v) 191 212 true).run Tryz.prog w = .ok (.tuple #[.int .u8 0, .bool false]) w := by kernel_rfl
theorem taTT (v : Value) (w : World) : (Instr.typeAssert (.iface 214 v) 191 214 true).run Tryz.prog w = .ok (.tuple #[v, .bool true]) w := by kernel_rfl
theorem taLS (v : Value) (w : World) : (Instr.typeAssert (.iface 219 v) 191 212 true).run Tryz.prog w = .ok (.tuple #[.int .u8 0, .bool false]) w := by kernel_rfl
theorem taLT (v : Value) (w : World) : (Instr.typeAssert (.iface 219 v) 191 214 true).run Tryz.prog w = .ok (.tuple #[.slice none 0 0, .bool false]) w := by kernel_rfl
theorem taLL (v : Value) (w : World) : (Instr.typeAssert (.iface 219 v) 191 219 true).run Tryz.prog w = .ok (.tuple #[v, .bool true]) w := by kernel_rfl
theorem front_tch {b : Nat} {w w2 : World} {o : Obj} {v : Value} (_hb : b < w.heap.size) (hT : Tch [b] (w.alloc o) w2) : Tch [b] w (w2.setCell ⟨w.heap.size, 0, none⟩ v) :=
  (((Tch.refl [b] w).alloc o).trans hT).only (Only.setCell w2 ⟨w.heap.size, 0, none⟩ v) (.inl (Nat.le_refl _))
set_option maxHeartbeats 1000000 in
set_option maxRecDepth 100000 in
theorem put_single (b n n0 x : Nat) (t : TypeId) (f : Nat → Nat) (w : World) (hn : 0 < n) (hn0 : n ≤ n0) (hm : n0 ≤ 100000000) (hx : x < 128) (hB : Blk w b t (bc n0 f)) :
    Calls Tryz.prog 112 #[.slice (some ⟨b, 0, none⟩) n n0, .iface 212 (.int .u8 (x : Int))] w (PutPost b n n0 t f w [x]) := by
  have hp := fun (w1 : World) (h1 : Blk w1 b t (bc n0 f)) => putByte_any b n n0 x t f w1 hn hn0 hm (by omega) h1
  have HP := hQz hp
  have HB := hQz hB
  clear hp hB
  have k1 := taSS
  go_enter Tryz.func112, Tryz.ntmps112
  go_wp2_with (go_at_call 132; refine (HP.out _ (HB.out.alloc _)).mono ?_; rintro e w2 ⟨rfl, hT, hB2⟩; have hfb := hT.blk (Blk.new w _ _) (by have := HB.out.lt; simp; omega); have hc := hfb.cell (j := 0) rfl; have hf := hfb.free 0)
  go_ret
  exact ⟨rfl, front_tch HB.out.lt hT, hB2.far (p := ⟨w.heap.size, 0, none⟩) (Nat.ne_of_lt HB.out.lt) _⟩
theorem putpost_head {b m n0 : Nat} {t : TypeId} {f : Nat → Nat} {w w3 w4 : World} {h l : List Nat} {e : Ending} {v : Value} (hh : h.length ≤ m) (hb : b < w.heap.size) (hT : Tch [b] w w3) (hp : PutPost b m n0 t (wr f m l) w3 h e w4) : PutPost b (m + l.length) n0 t f w (h ++ l) e (w4.setCell ⟨w.heap.size, 0, none⟩ v) := by
  have e1 : m + l.length - (h ++ l).length = m - h.length := by rw [List.length_append]; omega
  refine ⟨by rw [e1]; exact hp.1, (hT.trans hp.2.1).only (Only.setCell w4 ⟨w.heap.size, 0, none⟩ v) (.inl (Nat.le_refl _)), ?_⟩
  have h3 := hp.2.2
  have h4 := wr_wr f (m - h.length) h l
  rw [show m - h.length + h.length = m by omega] at h4
  rw [h4] at h3
  rw [e1]
  exact h3.far (p := ⟨w.heap.size, 0, none⟩) (Nat.ne_of_lt hb) v
set_option maxHeartbeats 1000000 in
set_option maxRecDepth 100000 in
theorem put_text (b n n0 : Nat) (s : Value) (l : List Nat) (t : TypeId) (f : Nat → Nat) (w : World) (hn : hsz l.length + l.length ≤ n) (hn0 : n ≤ n0) (hm : n0 ≤ 100000000) (hs : RdA [b] w s l) (hB : Blk w b t (bc n0 f)) :
    Calls Tryz.prog 112 #[.slice (some ⟨b, 0, none⟩) n n0, .iface 214 s] w (PutPost b n n0 t f w (hd 128 l.length ++ l)) := by
  obtain ⟨m, rfl⟩ : ∃ m, n = m + l.length := ⟨n - l.length, by omega⟩
  have hp := fun (w1 : World) (h1 : Blk w1 b t (bc n0 (wr f m l))) => (putHead_any b m n0 128 l.length t (wr f m l) w1 (by omega) (by omega) hm (by omega) (by omega) h1)
  obtain ⟨p, c, rfl, h2, h3, h4⟩ := id hs
  have hsl : ((m + l.length : Nat) : Int) - (l.length : Int) = (m : Int) := by omega
  have hfin := fun (w3 w4 : World) (v : Value) (e : Ending) (hT : Tch [b] w w3) (hp : PutPost b m n0 t (wr f m l) w3 (hd 128 l.length) e w4) => putpost_head (v := v) (by rw [qe6]; omega) hB.lt hT hp
  have HF := hQz hfin
  have HP := hQz hp
  have HB := hQz hB
  have HS := hQz hs
  have HM := hQz hn0
  clear hp hB hs h4 h3 hfin
  have k1 := taTS
  have k2 := taTT
  rcases Nat.lt_or_ge m n0 with hmn | hmn
  · go_enter Tryz.func112, Tryz.ntmps112
    go_wp2_with (first
      | (refine copy_bytes (l := l) (at_ := m) (f := f) (t := t) (n0 := n0) (b := b) (HB.out.alloc _) rfl (.tmp 32) (.tmp 33) rfl rfl (fun _ => rfl) rfl (HS.out.tch ((Tch.refl [b] w).alloc _)).rdB HM.out ?_
         intro w3 hB3 hO
         have hT3 := ((Tch.refl [b] w).alloc _).only hO (.inr (by simp))
         have hfb := hO.blk (Ne.symm (Nat.ne_of_lt HB.out.lt)) (Blk.new w _ _)
         have hc := hfb.cell (j := 0) rfl
         have hf := hfb.free 0)
      | (go_at_call 133; refine (HP.out _ hB3).mono ?_; rintro e w4 hpp; obtain rfl := hpp.1; replace hfb := hpp.2.1.blk hfb (by have := HB.out.lt; simp; omega); replace hc := hfb.cell (j := 0) rfl; replace hf := hfb.free 0))
    go_ret
    exact HF.out _ _ _ _ hT3 hpp
  · obtain rfl : l = [] := List.eq_nil_of_length_eq_zero (by have := HM.out; omega)
    obtain rfl : m = n0 := by have := HM.out; simp at this; omega
    simp only [List.length_nil, Nat.add_zero] at *
    go_enter Tryz.func112, Tryz.ntmps112
    go_wp2_with (first
      | (refine copy_bytes (l := []) (at_ := m) (f := f) (t := t) (n0 := m) (b := b) (HB.out.alloc _) rfl (.tmp 32) (.tmp 33) rfl rfl (fun h => absurd rfl h) rfl (HS.out.tch ((Tch.refl [b] w).alloc _)).rdB HM.out ?_
         intro w3 hB3 hO
         have hT3 := ((Tch.refl [b] w).alloc _).only hO (.inr (by simp))
         have hfb := hO.blk (Ne.symm (Nat.ne_of_lt HB.out.lt)) (Blk.new w _ _)
         have hc := hfb.cell (j := 0) rfl
         have hf := hfb.free 0)
      | (go_at_call 133; refine (HP.out _ hB3).mono ?_; rintro e w4 hpp; obtain rfl := hpp.1; replace hfb := hpp.2.1.blk hfb (by have := HB.out.lt; simp; omega); replace hc := hfb.cell (j := 0) rfl; replace hf := hfb.free 0))
    go_ret
    exact HF.out _ _ _ _ hT3 hpp
end
section
open Go.RowKit Go.Shelf
attribute [local go_sem] Oper.semAt_some
def KT (n₀ : Nat) (X : List Nat) (W W' : World) : Prop := W.heap.size ≤ W'.heap.size ∧ ∀ k, k < n₀ → k ∉ X → W'.heap[k]? = W.heap[k]?
theorem KT.refl (n₀ : Nat) (X : List Nat) (W : World) : KT n₀ X W W := ⟨Nat.le_refl _, fun _ _ _ => rfl⟩
theorem KT.trans {n₀ : Nat} {X : List Nat} {A B C : World} (h : KT n₀ X A B) (k : KT n₀ X B C) : KT n₀ X A C := ⟨Nat.le_trans h.1 k.1, fun i hi hx => (k.2 i hi hx).trans (h.2 i hi hx)⟩
theorem KT.cell {n₀ : Nat} {X : List Nat} {A B : World} (h : KT n₀ X A B) {p : Addr} (hp : p.block < n₀) (hx : p.block ∉ X) : B.cell? p = A.cell? p := World.cell?_of_block (w := A) (h.2 p.block hp hx)
theorem KT.b {n₀ : Nat} {X : List Nat} {w : World} (hn : n₀ ≤ w.heap.size) (W : World) (l : Nat) (o o' : Obj) (hl : w.heap.size ≤ l) (h : W.heap[l]? = some o) (h1 : o.isCells = false) (h2 : o.isWalk = false) : KT n₀ X W (W.putObj l o') := by
  have := belowK_b (n₀ := n₀) hn W l o o' hl h h1 h2
  exact ⟨this.size, fun k hk _ => this.block k hk⟩
theorem blk_others {bs : List Nat} {W W' : World} (hT : Tch bs W W') (hb : ∀ b ∈ bs, ∃ t c, Blk W b t c) : KeepsOthers W W' :=
  ⟨hT.size, fun k o hk ho => by
    refine (hT.block k (Array.getElem?_eq_some_iff.1 hk).1 fun hm => ?_).trans hk
    obtain ⟨t, c, h⟩ := hb k hm
    unfold Blk at h
    rw [hk] at h
    cases h
    simp [Obj.isCells] at ho⟩
theorem range_count {P : Program} {n : Nat} {g : Operand} {ps : Array Tmp} {assign body : Code} {Q : Exit → Act → World → Prop} {a : Act} {w : World} {gf : Nat} {lb : Array Value} (X : List Nat) (hg : a.eval g = .func (.func gf) #[] lb) (eg : ∀ args w, (callFunc gf args).run P w = .ok (.enter gf args) w)
    (N : Nat) (en : Nat → Array Value) (hps : ∀ k, (en k).size = ps.size)
    (hseq : ∀ (l : Nat) (J : Nat → World → Prop) (W : World), Below w.heap.size w W →
      (∀ k W1, k < N → J k W1 → YieldAt Fence.wide (n - 1 - 1) P l (en k) W1 fun e W' => e = .returned (.bool true) ∧ J (k + 1) W' ∧ KT w.heap.size X W1 W') → J 0 W →
      CallsIn Fence.wide (n - 1) P gf (#[.func (.yield l) #[] #[]] ++ lb) W fun e W' => (∃ v, e = .returned v) ∧ J N W')
    (I : Nat → World → Prop) (hI : ∀ k W W', I k W → Below w.heap.size W W' → I k W') (h0 : I 0 w) (a₁ : Nat → Act)
    (hassign : ∀ (l k : Nat) (W : World) (K : Act → World → Prop), K (a₁ k) W →
      assign.wpIn (Fence.wide.inRound l) (n - 1 - 1) P (Exit.then K (fun _ _ _ => False)) { tmps := (ps.zip (en k)).foldl (fun t (p, v) => t.setIfInBounds p v) a.tmps, defers := [] } W)
    (hbody : ∀ (l k : Nat) (W : World), k < N → I k W → w.heap.size ≤ W.heap.size → body.wpIn (Fence.wide.inRound l) (n - 1 - 1) P (fun e _ W' => match e with | .normal => KeepsOthers W W' ∧ KT w.heap.size X W W' ∧ I (k + 1) W' | _ => False) (a₁ k) W)
    (hdone : ∀ (D : Nat) (W : World), w.heap.size ≤ D → I N W → W.heap[D]? = some (.deferred (some [])) → Q .normal { a with defers := { target := .collected D, args := #[] } :: a.defers } W) :
    (Code.rangeFunc g ps assign body).wpIn Fence.wide n P Q a w := by
  refine wpIn_rangeFunc fun fn _ => ?_
  let rc : LoopState → Loop := fun st => { state := st, pending := none, fn := fn, tmps := a.tmps, params := ps, assign := assign, body := body, defers := w.heap.size }
  let W1 := (w.alloc (.deferred (some []))).alloc (.loop (rc .ready))
  have hb1 : Below w.heap.size w W1 := ((Below.refl _ w).alloc (Nat.le_refl _) _).alloc (by simp) _
  have hL1 : W1.heap[w.heap.size + 1]? = some (.loop (rc .ready)) := by
    have := World.alloc_heap_new (w.alloc (.deferred (some []))) (.loop (rc .ready))
    rwa [World.size_alloc] at this
  have hD1 : W1.heap[w.heap.size]? = some (.deferred (some [])) := (Below.heap_alloc _ _ _ (by simp)).trans (World.alloc_heap_new w _)
  refine ⟨w.heap.size + 1, [{ target := .collected w.heap.size, args := #[] }], W1, { target := .fn (.func gf) lb, args := #[.func (.yield (w.heap.size + 1)) #[] #[]] }, W1, gf,
    #[.func (.yield (w.heap.size + 1)) #[] #[]] ++ lb, W1, run_enterLoop_outer _ _ _ _ _, ?_, fun _ _ => trivial, ?_, fun h => (by simp [Fence.wide] at h), ?_⟩
  · simp only [resolve, hg]; simp [go_sem]
  · simp [invoke, go_sem, eg]
  refine (hseq (w.heap.size + 1) (fun k W => I k W ∧ w.heap.size ≤ W.heap.size ∧ W.heap[w.heap.size + 1]? = some (.loop (rc .ready)) ∧ W.heap[w.heap.size]? = some (.deferred (some []))) W1 hb1 ?_ ⟨hI _ _ _ h0 hb1, hb1.size, hL1, hD1⟩).mono ?_
  · rintro k W hk ⟨hi, hs, hl, hd⟩
    have hlt : w.heap.size + 1 < W.heap.size := (Array.getElem?_eq_some_iff.1 hl).1
    refine ⟨fn, _, assign, body, run_yield (r := rc .ready) hl (hps k), roundIn_of_wpIn trivial (hassign _ k W _ ⟨_, run_beginRound hl rfl, ?_⟩)⟩
    have hB2 := belowK_b (n₀ := w.heap.size) (w := w) (Nat.le_refl _) W (w.heap.size + 1) _ (.loop (rc .busy)) (by omega) hl rfl rfl
    have hl2 : (W.putObj (w.heap.size + 1) (.loop (rc .busy))).heap[w.heap.size + 1]? = some (.loop (rc .busy)) := World.putObj_heap_same hlt
    have hd2 : (W.putObj (w.heap.size + 1) (.loop (rc .busy))).heap[w.heap.size]? = some (.deferred (some [])) := (World.putObj_heap_other (by omega)).trans hd
    refine wpIn_mono (hbody _ k _ hk (hI _ _ _ hi hB2) (Nat.le_trans hs hB2.size)) ?_
    intro e a3 W3 hp
    match e, hp with
    | .normal, ⟨hk3, hkp3, hi3⟩ =>
      have hl3 := hk3.same _ _ hl2 rfl
      have hd3 := hk3.same _ _ hd2 rfl
      have hB4 := belowK_b (n₀ := w.heap.size) (w := w) (Nat.le_refl _) W3 (w.heap.size + 1) _ (.loop (rc .ready)) (by omega) hl3 rfl rfl
      refine ⟨_, _, run_endRound none hl3, rfl, ⟨hI _ _ _ hi3 hB4, ?_, World.putObj_heap_same (Array.getElem?_eq_some_iff.1 hl3).1, (World.putObj_heap_other (by omega)).trans hd3⟩, ?_⟩
      · exact Nat.le_trans hs (Nat.le_trans hB2.size (Nat.le_trans hkp3.1 hB4.size))
      · exact ((KT.b (Nat.le_refl _) W _ _ _ (by omega) hl rfl rfl).trans hkp3).trans (KT.b (Nat.le_refl _) W3 _ _ _ (by omega) hl3 rfl rfl)
  · rintro e W2 ⟨⟨v, rfl⟩, hi, hs, hl, hd⟩
    have hB4 := belowK_b (n₀ := w.heap.size) (w := w) (Nat.le_refl _) W2 (w.heap.size + 1) _ (.loop { rc .ready with state := .exhausted }) (by omega) hl rfl rfl
    exact ⟨none, _, run_endLoop hl (by simp [rc]), hdone _ _ (Nat.le_refl _) (hI _ _ _ hi hB4) ((World.putObj_heap_other (by omega)).trans hd)⟩
abbrev enBack (vs : Nat → Value) (len k : Nat) : Array Value := #[.int .i64 ((len - 1 - k : Nat) : Int), vs (len - 1 - k)]
set_option maxRecDepth 100000 in
set_option maxHeartbeats 2000000 in
theorem bwd1_in (n : Nat) (hn : 1 ≤ n) (l Bs n₀ b off len cap : Nat) (X : List Nat) (p : Option Addr) (vs : Nat → Value) (hreach : len ≤ 100000000) (hp : 0 < len → p = some ⟨b, off, none⟩) (hb : 0 < len → b < n₀ ∧ b ∉ X) (hBs0 : Bs < n₀ ∧ Bs ∉ X) (J : Nat → World → Prop)
    (hY : ∀ k W, k < len → J k W → YieldAt Fence.wide (n - 1) Tryz.prog l (enBack vs len k) W fun e W' => e = .returned (.bool true) ∧ J (k + 1) W' ∧ KT n₀ X W W')
    (W : World) (hBs : W.cell? ⟨Bs, 0, none⟩ = some (.slice p len cap)) (hc : ∀ j, j < len → W.cell? ⟨b, off + j, none⟩ = some (vs j)) (h0 : J 0 W) :
    CallsIn Fence.wide n Tryz.prog 141 #[.func (.yield l) #[] #[], .pointer (some ⟨Bs, 0, none⟩)] W fun e W' => (∃ v, e = .returned v) ∧ J len W' := by
  refine callsIn_of_wp Tryz.func141 rfl trivial ?_ rfl
  simp only [Tryz.ntmps141, List.size_toArray, List.length_cons, List.length_nil, Nat.reduceAdd, Nat.reduceSub, Array.replicate_succ, Array.replicate_zero, List.push_toArray, List.append_toArray, List.nil_append, List.cons_append]
  gi_wp2
  gi_loopw [3] (fun i wr => ∃ k : Nat, k ≤ len ∧ i = .int .i64 ((len : Int) - 1 - k) ∧ J k wr ∧ KT n₀ X W wr)
    (fun i _ => (intOf i + 1).toNat)
  case atStart => exact ⟨0, Nat.zero_le _, by simp, h0, KT.refl _ _ _⟩
  case round =>
    obtain ⟨k, hk, rfl, hJs, hnx⟩ := hrel
    have hBs2 : wr.cell? ⟨Bs, 0, none⟩ = some (.slice p len cap) := (hnx.cell (p := ⟨Bs, 0, none⟩) hBs0.1 hBs0.2).trans hBs
    by_cases hlt : k < len
    · obtain rfl := hp (by omega)
      obtain ⟨fn, tmps, assign, body, hy, hR⟩ := hY k wr hlt hJs
      dsimp only [enBack] at hy
      obtain ⟨i, hi⟩ : ∃ i, i = len - 1 - k := ⟨_, rfl⟩
      rw [← hi] at hy
      have hii : (len : Int) - 1 - k = (i : Int) := by omega
      have hil : i < len := by omega
      have hcx : wr.cell? ⟨b, off + i, none⟩ = some (vs i) := (hnx.cell (p := ⟨b, off + i, none⟩) (hb (by omega)).1 (hb (by omega)).2).trans (hc i hil)
      rw [hii]
      have HI := hQz (And.intro hi (And.intro hii hlt))
      clear hi hii hlt hk hc
      gi_wp2
      refine hR.mono ?_
      rintro e W3 ⟨rfl, hJ3, hk3⟩
      gi_wp2
      go_roundw
      case rel =>
        refine ⟨k + 1, by have := HI.out.2.2; omega, ?_, hJ3, hnx.trans hk3⟩
        have := HI.out.2.1; simp; omega
      case measure => simp [intOf]; try omega
    · obtain rfl : k = len := by omega
      have hneg : (k : Int) - 1 - k = -1 := by omega
      rw [hneg]
      gi_wp2
      go_end0
      exact ⟨⟨_, rfl⟩, hJs⟩
set_option maxHeartbeats 1000000 in
theorem backward_any (a : Option Addr) (len cap : Nat) (w : World) :
    Calls Tryz.prog 134 #[.slice a len cap] w fun e w' => e = .returned (.func (.func 141) #[] #[.pointer (some ⟨w.heap.size, 0, none⟩)]) ∧ w' = w.alloc (.cells #[.slice a len cap] 219) := by
  go_enter Tryz.func134, Tryz.ntmps134
  go_wp2
  go_ret
  exact ⟨rfl, rfl⟩
end
end Go.Proofs.YtanmpcgackfpaaaGreat
