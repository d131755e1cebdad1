/- The law RlpWrong: for every integer: of the bytes that the law lists, whether those of that place are an item, and that they are its bytes. No condition. -/
import Derived.Test.YtnkfkahbkjdnpaaK0
namespace Go.Proofs.Ytnkfkahbkjdnpaa.RWrong
open Go.RowKit

/-- The bytes that the law lists. -/
def wl17 : List (List Nat) := [[], [129, 5], [129, 128], [184, 1, 128], [184, 55], [130, 97], [193], [193, 128], [192, 192], [248, 1, 128], [185, 0, 56], [194, 129, 127], [128, 128], [0], [127], [191, 255, 255, 255, 255, 255, 255, 255, 255], [195, 130, 97, 98]]
def wb (k : Nat) : List Nat := wl17.getD k []
def wok (k : Nat) : Bool := rdErr (wb k) == 0
def cellsS : Array Value := #[.string ⟨#[]⟩, .string ⟨#[129, 5]⟩, .string ⟨#[129, 128]⟩, .string ⟨#[184, 1, 128]⟩, .string ⟨#[184, 55]⟩, .string ⟨#[130, 97]⟩, .string ⟨#[193]⟩, .string ⟨#[193, 128]⟩, .string ⟨#[192, 192]⟩, .string ⟨#[248, 1, 128]⟩, .string ⟨#[185, 0, 56]⟩, .string ⟨#[194, 129, 127]⟩, .string ⟨#[128, 128]⟩, .string ⟨#[0]⟩, .string ⟨#[127]⟩, .string ⟨#[191, 255, 255, 255, 255, 255, 255, 255, 255]⟩, .string ⟨#[195, 130, 97, 98]⟩]
def cellsB : Array Value := #[.bool false, .bool false, .bool true, .bool false, .bool false, .bool false, .bool false, .bool true, .bool false, .bool false, .bool false, .bool false, .bool false, .bool true, .bool true, .bool false, .bool true]
theorem cellS {k : Nat} (h : k < 17) : cellsS[k]? = some (.string (strB (wb k))) := by
  have e : cellsS = (wl17.map fun l => Value.string (strB l)).toArray := by rfl
  have hz : k < wl17.length := h
  rw [e]
  unfold wb
  simp [hz]
theorem cellB {k : Nat} (h : k < 17) : cellsB[k]? = some (.bool (wok k)) := by
  have e : cellsB = ((List.range 17).map fun i => Value.bool (wok i)).toArray := by
    have h1 : ((List.range 17).map fun i => wok i) = [false, false, true, false, false, false, false, true, false, false, false, false, false, true, true, false, true] := by decide +kernel
    rw [show ((List.range 17).map fun i => Value.bool (wok i)) = (((List.range 17).map fun i => wok i).map Value.bool) by rw [List.map_map]; rfl, h1]; rfl
  rw [e]; simp [h]
theorem wb_lt {k : Nat} (h : k < 17) : ∀ x ∈ wb k, x < 256 := by
  have all : ∀ j : Fin 17, ∀ x ∈ wb j.val, x < 256 := by decide +kernel
  exact all ⟨k, h⟩
theorem wb_len {k : Nat} (h : k < 17) : (wb k).length ≤ 9 := by
  have all : ∀ j : Fin 17, (wb j.val).length ≤ 9 := by decide +kernel
  exact all ⟨k, h⟩
theorem wb_no {k : Nat} (h : k < 17) (hk : wok k = false) : rdErr (wb k) = 4 := by
  have all : ∀ j : Fin 17, wok j.val = false → rdErr (wb j.val) = 4 := by decide +kernel
  exact all ⟨k, h⟩ hk
theorem wb_dep {k : Nat} (h : k < 17) : dep (rdItem (wb k)) ≤ 32 := by
  have all : ∀ j : Fin 17, dep (rdItem (wb j.val)) ≤ 32 := by decide +kernel
  exact all ⟨k, h⟩
theorem none_item {l : List Nat} (h : rdErr l ≠ 0) : rdItem l = .str [] := by
  unfold rdErr at h
  unfold rdItem
  cases hr : rd l with
  | ok t => rw [hr] at h; exact absurd rfl h
  | error c => rfl
/-- Bytes made of a text. -/
theorem conv_row (w : World) (l : List Nat) (hl : ∀ x ∈ l, x < 256) : ∃ c W, (convert 9 22 (.string (strB l))).run Try.prog w = .ok (.slice (some ⟨w.heap.size, 0, none⟩) l.length c) W ∧ Tch [] w W ∧ RdA [] W (.slice (some ⟨w.heap.size, 0, none⟩) l.length c) l := by
  have h := run_bytes_of_string (P := Try.prog) w 9 22 5 (strB l) string_ty bytes_ty byte_ty
  have hs : (strB l).size = l.length := strB_size l
  rw [hs] at h
  refine ⟨_, _, h, ((Tch.refl _ _).drew).alloc _, _, _, rfl, grownCap_ge _ _ _ _, hl, fun _ => ⟨w.heap.size, 0, rfl, by simp, by simp, fun i hi => ?_⟩⟩
  have hB := Go.heap_alloc_new w.drew (.cells (bytesRow (strB l) (grownCap w l.length 0 5)) 5 ((bytesRow (strB l) (grownCap w l.length 0 5)).size, (bytesRow (strB l) (grownCap w l.length 0 5)).size + 1))
  have hj : i < (strB l).data.size := by show i < (strB l).size; rw [hs]; exact hi
  rw [Nat.zero_add, cell_of_row _ w.heap.size i _ _ _ hB, bytesRow_at (strB l) _ i hj]
  have hx : l[i] < 256 := hl _ (List.getElem_mem hi)
  have e : ((strB l).data[i]'hj).toNat = l.getD i 0 := by
    simp [strB, hi, Nat.mod_eq_of_lt hx]
  rw [e]
theorem k_slice {o : Oper} {a : Act} {ops : Array Oper} {rest : List Oper} {C : World → Prop} {Q : Act → Prop} {p : Option Addr} {l c : Nat} (hw : Region.wanted o (yielded ops a.tmps) = true) (xo : Operand) (ho : o.op = .move xo) (hx : a.eval xo = .slice p l c)
    (h : KQ ops C Q rest (a.put o.dst (.slice p l c))) : KQ ops C Q (o :: rest) a := k_val hw xo (.inl ho) hx h
theorem string_agg (w : World) : (isAgg 9).run Try.prog w = .ok false w := by simp [isAgg, run_underlying string_ty]
theorem strs_ty : Try.prog.underlying 44 = some (.slice 9) := by kernel_rfl
theorem str_size : (Try.prog.info? 9).map (·.size) = some 1 := by kernel_rfl
/-- A slice is built. -/
theorem st_buildS {ops : Array Oper} {rest : List Oper} {o : Oper} {a : Act} {bs : List Nat} {w0 w : World} {Q : Exit → Act → World → Prop} {L : List Ent} {n : Nat} {ty t : TypeId} {c : Array Value} {parts : Array (Nat × Operand)} (hS : St bs w0 w L) (hgd : o.guard = none) (ho : o.op = .buildSlice ty n parts)
    (hr : ∀ w : World, (Instr.buildSlice ty n (parts.map fun (i, x) => (i, a.eval x))).run Try.prog w = .ok (.slice (some ⟨w.heap.size, 0, none⟩) n n) (w.alloc (.cells c t)))
    (h : ∀ w' b, St bs w0 w' ((b, t, c) :: L) → wpList Try.prog ops Q rest (a.put o.dst (.slice (some ⟨b, 0, none⟩) n n)) w') : wpList Try.prog ops Q (o :: rest) a w :=
  wpList_plain hgd fun K hK => by
    have hr2 := hr w
    unfold Oper.wp execOp
    simp only [ho, Sem.run_bind, hr2, Result.andThen_ok, Sem.run_pure]
    exact hK _ _ (h _ _ (hS.new t c))
set_option maxHeartbeats 1000000 in
set_option maxRecDepth 100000 in
theorem out (n0 : Int) (hn : -9223372036854775808 ≤ n0 ∧ n0 ≤ 9223372036854775807) (h : n0 < 0 ∨ 17 ≤ n0) (w : World) : Calls Try.prog 8 #[.int .i64 n0] w fun e w' => e = .returned (.bool true) ∧ Tch [] w w' := by
  have hS := St.start w
  rcases h with h | h
  · go_enter Try.func8, Try.ntmps8
    go_wp2_with (first | (go_at_call 10; refine (alive_any _).mono ?_; rintro e w1 ⟨rfl, hT1⟩; replace hS := hS.call hT1) | (refine st_buildS (L := []) (n := 17) (t := 9) (c := cellsS) hS rfl rfl (fun w => by kernel_rfl) ?_; clear hS; intro w2 bS hS) | (refine st_buildS (n := 17) (t := 4) (c := cellsB) hS rfl rfl (fun w => by kernel_rfl) ?_; clear hS; intro w3 bB hS))
    go_ret
    exact ⟨rfl, hS.frame⟩
  · have h2 : ¬ n0 < 0 := by omega
    go_enter Try.func8, Try.ntmps8
    go_wp2_with (first | (go_at_call 10; refine (alive_any _).mono ?_; rintro e w1 ⟨rfl, hT1⟩; replace hS := hS.call hT1) | (refine st_buildS (L := []) (n := 17) (t := 9) (c := cellsS) hS rfl rfl (fun w => by kernel_rfl) ?_; clear hS; intro w2 bS hS) | (refine st_buildS (n := 17) (t := 4) (c := cellsB) hS rfl rfl (fun w => by kernel_rfl) ?_; clear hS; intro w3 bB hS))
    go_ret
    exact ⟨rfl, hS.frame⟩
set_option maxHeartbeats 1000000 in
set_option maxRecDepth 100000 in
theorem no (k : Nat) (hk : k < 17) (hok : wok k = false) (w : World) : Calls Try.prog 8 #[.int .i64 (k : Int)] w fun e w' => e = .returned (.bool true) ∧ Tch [] w w' := by
  obtain ⟨f0, f1, f2, hty, _⟩ := item_ty
  have hS := St.start w
  have hki : (k : Int) < 17 := by omega
  have hd0 : ¬ (k : Int) < 0 := by omega
  have hd17 : ¬ (17 : Int) ≤ (k : Int) := by omega
  have hread := fun (w4 : World) (v : Value) (hv : RdA [] w4 v (wb k)) => (read_any v (wb k) w4 (by have := wb_len hk; omega) hv).mono (R' := fun e w' => ∃ p1 c1 p2 n2 c2, e = .returned (.tuple #[.agg #[.bool false, .slice p1 0 c1, .slice p2 n2 c2], .int .i64 4]) ∧ Tch [] w4 w') (fun e w' h => by
    obtain ⟨hT, d, p1, n1, c1, p2, n2, c2, rfl, hit⟩ := h
    have he := wb_no hk hok
    rw [none_item (by omega)] at hit
    have h3 := hit [] (by simp)
    unfold ItC at h3
    obtain ⟨h4, h5, _⟩ := h3
    cases h4
    obtain rfl : n1 = 0 := h5.len
    rw [he]
    exact ⟨p1, c1, p2, n2, c2, rfl, hT⟩)
  have HR := Lib.hid hread
  have HK := Lib.hid (And.intro hk hok)
  clear hread hk hok
  go_enter Try.func8, Try.ntmps8
  go_wp2_with (first
    | (go_at_call 10; refine (alive_any _).mono ?_; rintro e w1 ⟨rfl, hT1⟩; replace hS := hS.call hT1)
    | (refine st_buildS (L := []) (n := 17) (t := 9) (c := cellsS) hS rfl rfl (fun w => by kernel_rfl) ?_; clear hS; intro w2 bS hS)
    | (refine st_buildS (n := 17) (t := 4) (c := cellsB) hS rfl rfl (fun w => by kernel_rfl) ?_; clear hS; intro w3 bB hS
       have hcs := (hS.get (.tail .head)).cell (cellS HK.out.1)
       have hcb := (hS.get .head).cell (cellB HK.out.1)
       obtain ⟨cc, W4, hcv, hTc, hrc⟩ := conv_row w3 (wb k) (wb_lt HK.out.1))
    | (go_at_call 15; refine (HR.out W4 _ hrc).mono ?_; clear HR; rintro e w5 ⟨p1, c1, p2, n2, c2, rfl, hT5⟩
       have hBB := (hS.call (hTc.trans hT5)).get .head
       have hF := (hS.call (hTc.trans hT5)).frame
       clear hS hcs hcb hcv
       have hS := St.start w5)
    | (refine st_new (L := []) hS rfl 25 rfl item_zero ?_; clear hS; intro w6 b6 hS)
    | (refine st_store (c' := #[.bool false, .slice p1 0 c1, .slice p2 n2 c2]) hS rfl 25 _ _ rfl rfl rfl (by repeat (first | exact Upd.head | apply Upd.tail)) item_size (by rfl) (by rfl) (one3 rfl rfl rfl) ?_; clear hS; intro w7 hS
       have hcb7 := (hS.frame.blk hBB (by simp)).cell (cellB HK.out.1)
       rw [HK.out.2] at hcb7
       have hx0 := (hS.get .head).cell (j := 0) rfl
       have hx1 := (hS.get .head).cell (j := 1) rfl)
    | (go_at_call 14; refine (num_any _ _).mono ?_; rintro e w8 ⟨rfl, rfl⟩))
  go_ret
  exact ⟨rfl, hF.trans hS.frame⟩
end Go.Proofs.Ytnkfkahbkjdnpaa.RWrong
