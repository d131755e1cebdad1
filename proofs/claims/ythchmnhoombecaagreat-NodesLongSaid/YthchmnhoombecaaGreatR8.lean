/- rlp.Pack of any item. -/
import Derived.Test.YthchmnhoombecaaGreatR7
import Derived.Test.YthchmnhoombecaaGreatB0
namespace Go.Proofs.YthchmnhoombecaaGreat
open Go.RowKit

theorem hd_lt {base n : Nat} (hb : base ≤ 192) (hn : n ≤ 16777216) : ∀ x ∈ hd base n, x < 256 := by
  intro x hx
  unfold hd at hx
  split at hx
  · have := List.mem_singleton.1 hx; omega
  · rcases List.mem_cons.1 hx with rfl | hx
    · have := lsz_le (n := n) (by omega); omega
    · exact be_lt n x hx
theorem mem_encs {l : List It} {x : Nat} (h : x ∈ encs l) : ∃ i, ∃ h : i < l.length, x ∈ enc l[i] := by
  induction l with
  | nil => simp [encs] at h
  | cons y r ih =>
    rw [encs] at h
    rcases List.mem_append.1 h with h | h
    · exact ⟨0, by simp, h⟩
    · obtain ⟨i, hi, h⟩ := ih h
      exact ⟨i + 1, by simp; omega, by simpa using h⟩
theorem encs_item (l : List It) (i : Nat) (h : i < l.length) : (enc l[i]).length ≤ (encs l).length := by have := encs_split l i h; omega
theorem enc_lt {X : List Nat} {w : World} : ∀ {k : Nat} {x0 vb vl : Value} {it : It}, ItC X w k x0 vb vl it → (enc it).length ≤ 16777216 → ∀ x ∈ enc it, x < 256
  | 0, _, _, _, _, h, _ => h.elim
  | _ + 1, _, _, _, .str l, h, hl => by
    unfold ItC at h
    obtain ⟨_, ⟨p, c, _, _, h3, _⟩, _⟩ := h
    rw [enc_str] at hl ⊢
    unfold encS at hl ⊢
    split at hl
    · rename_i hs; rw [if_pos hs]; exact h3
    · rename_i hs; rw [if_neg hs]
      rw [List.length_append] at hl
      intro x hx
      rcases List.mem_append.1 hx with hx | hx
      · exact hd_lt (by omega) (by omega) x hx
      · exact h3 x hx
  | k + 1, _, _, _, .lst l, h, hl => by
    unfold ItC at h
    obtain ⟨_, p, c, _, _, h3⟩ := h
    rw [enc_lst] at hl ⊢
    rw [List.length_append] at hl
    intro x hx
    rcases List.mem_append.1 hx with hx | hx
    · exact hd_lt (by omega) (by omega) x hx
    · obtain ⟨i, hi, hx⟩ := mem_encs hx
      have hne : l ≠ [] := by intro e; subst e; simp at hi
      obtain ⟨b, o, _, _, _, h7⟩ := h3 hne
      obtain ⟨y0, yb, yl, _, _, _, h8⟩ := h7 i hi
      exact enc_lt h8 (by have := encs_item l i hi; omega) x hx
/-- What Pack answers. -/
def PackPost (it : It) (w : World) (e : Ending) (w' : World) : Prop :=
  Tch [] w w' ∧ if dep it ≤ 32 ∧ (enc it).length ≤ 16777216 then ∃ b, w.heap.size ≤ b ∧ e = .returned (.tuple #[.slice (some ⟨b, 0, none⟩) (enc it).length (enc it).length, .int .i64 0]) ∧ Blk w' b 5 (bc (enc it).length fun i => (enc it).getD i 0) else e = .returned (.tuple #[.slice none 0 0, .int .i64 3])
theorem packpost_no {it : It} {w w' : World} (h : ¬ (dep it ≤ 32 ∧ (enc it).length ≤ 16777216)) (hT : Tch [] w w') : PackPost it w (.returned (.tuple #[.slice none 0 0, .int .i64 3])) w' := ⟨hT, by rw [if_neg h]⟩
/-- Bytes are made. -/
theorem st_makeN {ops : Array Oper} {rest : List Oper} {o : Oper} {a : Act} {w : World} {Q : Exit → Act → World → Prop} (n : Nat) (hgd : o.guard = none) (x y : Operand) (ho : o.op = .makeSlice 31 x y) (hx : a.eval x = .int .i64 (n : Int)) (hy : a.eval y = .int .i64 (n : Int)) (hn : n ≤ 16777216)
    (h : wpList Tryz.prog ops Q rest (a.put o.dst (.slice (some ⟨w.heap.size, 0, none⟩) n n)) (w.alloc (.cells (bc n fun _ => 0) 5))) : wpList Tryz.prog ops Q (o :: rest) a w :=
  wpList_plain hgd fun K hK => by
    obtain ⟨i, hi, hz, hs, hb⟩ := info_parts A_info
    have hr := run_makeSlice (P := Tryz.prog) w 31 5 i (.int .u8 0) bytes_ty hi hz .i64 .i64 n n (by omega) (by omega) (by rw [hs]; simp; omega) (by rw [hb]; omega) (by omega)
    rw [hs, Int.toNat_natCast, make_bytes] at hr
    unfold Oper.wp execOp
    simp only [ho, hx, hy, Sem.run_bind, hr, Result.andThen_ok, Sem.run_pure]
    exact hK _ _ h
set_option maxHeartbeats 2000000 in
set_option maxRecDepth 100000 in
theorem pack_any (k : Nat) (x0 vb vl : Value) (it : It) (w : World) (hit : ItC [] w k x0 vb vl it) :
    Calls Tryz.prog 52 #[.agg #[x0, vb, vl]] w (PackPost it w) := by
  obtain ⟨W2, hW2⟩ : ∃ W2, W2 = (w.alloc (.cells #[x0, vb, vl] 109)).alloc (.cells #[.int .i64 16777216] 137) := ⟨_, rfl⟩
  have hT2 : Tch [] w W2 := by rw [hW2]; exact ((Tch.refl _ _).alloc _).alloc _
  have hz2 : W2.heap.size = w.heap.size + 2 := by rw [hW2]; simp
  have hG2 : Blk W2 (w.heap.size + 1) 137 (gro ((16777216 : Nat) : Int)) := by
    have := Blk.new (w.alloc (.cells #[x0, vb, vl] 109)) 137 #[.int .i64 16777216]
    rw [World.size_alloc] at this
    rw [hW2]; exact this
  have hI2 : Blk W2 w.heap.size 109 #[x0, vb, vl] := by rw [hW2]; exact (Blk.new w _ _).alloc _
  have hitm : ItC [w.heap.size + 1] W2 k x0 vb vl it := (hit.mono (Y := [w.heap.size + 1]) (fun y hy => .inr (by simp at hy; omega))).tch (hT2.mono (by simp))
  have hcall := grow_any 32 [w.heap.size + 1] (w.heap.size + 1) 16777216 k w.heap.size 0 x0 vb vl it 137 0 W2 (by simp) (by simp; omega) (by omega) (by simp) (by omega) hG2 (hI2.cell rfl) (hI2.cell rfl) (hI2.cell rfl) hitm (by omega) (by omega)
  have hlt8 := enc_lt hit
  clear hit hitm hI2 hG2
  by_cases hok : dep it ≤ 32 ∧ (enc it).length ≤ 16777216
  · obtain ⟨n, hn⟩ : ∃ n, n = (enc it).length := ⟨_, rfl⟩
    obtain ⟨R, hR⟩ : ∃ R, R = 16777216 - n := ⟨_, rfl⟩
    have hcall2 := hcall.mono (R' := fun e w' => ∃ v, e = .returned (.tuple #[v, .bool true]) ∧ Tch [w.heap.size + 1] W2 w' ∧ PcV [w.heap.size + 1] w' k v it ∧ Blk w' (w.heap.size + 1) 137 (gro (R : Int))) (fun e w' h => by
      obtain ⟨h1, h2⟩ := h
      rw [if_pos hok, ← hn, ← hR] at h2
      obtain ⟨v, h3, h4, h5⟩ := h2
      exact ⟨v, h3, h1, h4, h5⟩)
    have hput := fun (w3 : World) (v : Value) (h : PcV [w.heap.size + 1] w3 k v it) => put_any k w3.heap.size n n v it 5 (fun _ => 0) (w3.alloc (.cells (bc n fun _ => 0) 5)) ((h.mono (Y := [w3.heap.size]) (fun y hy => .inr (by simp at hy; omega))).tch ((Tch.refl _ _).alloc _)) (Blk.new _ _ _) (by omega) (Nat.le_refl _) (by omega)
    have hfin : ∀ (w3 w5 : World) (e : Ending), Tch [w.heap.size + 1] W2 w3 → PutPost w3.heap.size n n 5 (fun _ => 0) (w3.alloc (.cells (bc n fun _ => 0) 5)) (enc it) e w5 → PackPost it w (.returned (.tuple #[.slice (some ⟨w3.heap.size, 0, none⟩) n n, .int .i64 0])) w5 := fun w3 w5 e hT3 hp => by
      have hT3' := hT2.fresh hT3 (by simp)
      refine ⟨(hT3'.alloc _).fresh hp.2.1 (fun x hx => by simp at hx; rw [hx]; exact hT3'.size), ?_⟩
      rw [if_pos hok]
      refine ⟨w3.heap.size, hT3'.size, by rw [hn], ?_⟩
      have h3 := hp.2.2
      rw [← hn, Nat.sub_self] at h3
      rw [hn] at h3
      rw [← wr_zero (fun _ => 0)]
      exact h3
    have hRn : (16777216 : Int) - (R : Int) = (n : Int) := by omega
    have hn8 : n ≤ 16777216 := by omega
    have HC := Lib.hid hcall2
    have HP := Lib.hid hput
    have HF := Lib.hid hfin
    clear hcall hcall2 hput hfin hlt8 hok hn hR hT2 hz2
    go_enter Tryz.func52, Tryz.ntmps52
    go_wp2_with (first
      | (go_at_call 69; rw [← hW2]; refine HC.out.mono ?_; rintro e w3 ⟨v, rfl, hT3, hv, hG3⟩; have hgc : w3.cell? ⟨w.heap.size + 1, 0, none⟩ = some (.int .i64 (R : Int)) := hG3.cell (j := 0) rfl)
      | (refine st_makeN n rfl _ _ rfl rfl rfl hn8 ?_)
      | (go_at_call 70; refine (HP.out w3 v hv).mono ?_; rintro e w5 hp; obtain ⟨u, hu⟩ : ∃ u, e = .returned u := ⟨_, hp.1⟩; subst hu; have HQ := Lib.hid hp; clear hp))
    go_ret2
    exact HF.out _ _ _ hT3 HQ.out
  · have hcall2 := hcall.mono (R' := fun e w' => ∃ v, e = .returned (.tuple #[v, .bool false]) ∧ Tch [w.heap.size + 1] W2 w') (fun e w' h => by
      obtain ⟨h1, h2⟩ := h
      rw [if_neg hok] at h2
      obtain ⟨v, h3⟩ := h2
      exact ⟨v, h3, h1⟩)
    have HC := Lib.hid hcall2
    have HT := Lib.hid (And.intro hT2 hok)
    clear hcall hcall2 hlt8 hok hT2 hz2
    go_enter Tryz.func52, Tryz.ntmps52
    go_wp2_with (go_at_call 69; rw [← hW2]; refine HC.out.mono ?_; rintro e w3 ⟨v, rfl, hT3⟩)
    go_ret2
    exact packpost_no HT.out.2 (HT.out.1.fresh hT3 (by simp))
end Go.Proofs.YthchmnhoombecaaGreat
