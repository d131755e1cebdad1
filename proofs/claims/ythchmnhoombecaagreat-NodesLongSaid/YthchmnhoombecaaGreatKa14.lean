/- The hash of parts. -/
import Derived.Test.YthchmnhoombecaaGreatKa12
import Derived.Test.YthchmnhoombecaaGreatKa13
namespace Go.Proofs.YthchmnhoombecaaGreat
open Go.RowKit

theorem sponge_lit : spn (fun _ => 0) 0 = #[.int .u64 0, .int .u64 0, .int .u64 0, .int .u64 0, .int .u64 0, .int .u64 0, .int .u64 0, .int .u64 0, .int .u64 0, .int .u64 0, .int .u64 0, .int .u64 0, .int .u64 0, .int .u64 0, .int .u64 0, .int .u64 0, .int .u64 0, .int .u64 0, .int .u64 0, .int .u64 0, .int .u64 0, .int .u64 0, .int .u64 0, .int .u64 0, .int .u64 0, .int .i64 0] := by kernel_rfl
theorem sponge_zero : (Tryz.prog.info? 134).bind (·.zero) = some (.agg (spn (fun _ => 0) 0)) := by rw [sponge_lit]; kernel_rfl
set_option maxHeartbeats 4000000 in
set_option maxRecDepth 100000 in
theorem absorb_none (b t d : Nat) (p : Option Addr) (A : Nat → Nat) (w : World) (hB : Blk w b 134 (spn A t)) :
    Calls Tryz.prog 67 #[.pointer (some ⟨b, 0, none⟩), .slice p 0 d] w fun e w' => e = .returned (.tuple #[]) ∧ Tch [b] w w' ∧ Blk w' b 134 (spn A t) := by
  have HB := Lib.hid hB
  clear hB
  go_enter Tryz.func67, Tryz.ntmps67
  go_wp2
  go_loopw [1] (fun pv wr => pv = .slice p 0 d ∧ wr = w) (fun pv _ => slen pv)
  case atStart => exact ⟨rfl, rfl⟩
  case round =>
    obtain ⟨rfl, rfl⟩ := hrel
    go_wp2
    exact bodyPost_end (results_none rfl _ _ _) rfl ⟨rfl, Tch.refl _ _, HB.out⟩
/-- A value that is a slice of these bytes. -/
def PartAt (w : World) (v : Value) (l : List Nat) : Prop := ∃ p c, v = .slice p l.length c ∧ l.length ≤ c ∧ l.length < 1000000 ∧ (∀ x ∈ l, x < 256) ∧ (l ≠ [] → ∃ pb o, p = some ⟨pb, o, none⟩ ∧ Bs w pb o l.length (fun i => l.getD i 0))
theorem PartAt.tch {bs : List Nat} {w w' : World} {v : Value} {l : List Nat} (h : PartAt w v l) (hT : Tch bs w w') (hb : ∀ x ∈ bs, w.heap.size ≤ x) : PartAt w' v l := by
  obtain ⟨p, c, h1, h2, h3, h4, h5⟩ := h
  refine ⟨p, c, h1, h2, h3, h4, fun hl => ?_⟩
  obtain ⟨pb, o, h6, h7⟩ := h5 hl
  exact ⟨pb, o, h6, h7.tch hT fun hm => by have := hb _ hm; have := h7.1; omega⟩
theorem bl_list (l : List Nat) : bl (fun i => l.getD i 0) l.length = l := by
  apply List.ext_getElem?
  intro i
  unfold bl
  rw [List.getElem?_map]
  by_cases h : i < l.length
  · rw [List.getElem?_range h]; simp [h]
  · rw [List.getElem?_eq_none (by simpa using h), List.getElem?_eq_none (by simpa using h)]; rfl
theorem absorb_part (b t : Nat) (v : Value) (l : List Nat) (A : Nat → Nat) (w w0 : World) (hok : SpOk ⟨A, t⟩) (hB : Blk w b 134 (spn A t)) (hP : PartAt w0 v l) (hT : Tch [] w0 w) (hb : w0.heap.size ≤ b) :
    Calls Tryz.prog 67 #[.pointer (some ⟨b, 0, none⟩), v] w fun e w' => e = .returned (.tuple #[]) ∧ Tch [b] w w' ∧ Blk w' b 134 (spn (absL ⟨A, t⟩ l).A (absL ⟨A, t⟩ l).t) := by
  obtain ⟨p, c, rfl, h2, h3, h4, h5⟩ := hP
  by_cases hl : l = []
  · subst hl; exact absorb_none b t c p A w hB
  · obtain ⟨pb, o, rfl, h7⟩ := h5 hl
    have hne : pb ≠ b := by have := h7.1; omega
    have := absorb_any b pb o l.length c t (fun i => l.getD i 0) A w hok hB (h7.tch hT (by simp)) hne h3 h2
    rwa [bl_list] at this
/-- The parts, one behind the other. -/
def cat (LL : Nat → List Nat) : Nat → List Nat
  | 0 => []
  | n + 1 => cat LL n ++ LL n
theorem cat_lt {LL : Nat → List Nat} : ∀ {n : Nat}, (∀ i, i < n → ∀ x ∈ LL i, x < 256) → ∀ x ∈ cat LL n, x < 256
  | 0, _, x, hx => by simp [cat] at hx
  | n + 1, h, x, hx => by
    rcases List.mem_append.1 hx with h1 | h1
    · exact cat_lt (fun i hi => h i (by omega)) x h1
    · exact h n (by omega) x h1
theorem slice_agg (w : World) : (isAgg 31).run Tryz.prog w = .ok false w := by
  have hu : Tryz.prog.underlying 31 = some (.slice 5) := by kernel_rfl
  simp [isAgg, run_underlying hu]
set_option maxHeartbeats 4000000 in
set_option maxRecDepth 100000 in
theorem sum_any (pl po n cc : Nat) (LL : Nat → List Nat) (w : World) (hn : n < 1000000) (hP : 0 < n → pl < w.heap.size) (hL : ∀ i, i < n → ∃ v, w.cell? ⟨pl, po + i, none⟩ = some v ∧ PartAt w v (LL i)) (pp : Option Addr) (hpp : 0 < n → pp = some ⟨pl, po, none⟩) :
    Calls Tryz.prog 51 #[.slice pp n cc] w fun e w' => e = .returned (.agg (wf (hashN (cat LL n)))) ∧ Tch [] w w' := by
  have HL := Lib.hid (And.intro hL (And.intro hP (And.intro hpp hn)))
  have hS := St.start w
  clear hL hP hpp
  go_enter Tryz.func51, Tryz.ntmps51
  go_wp2_with (first | (have _t := b2; clear _t; refine st_new hS rfl 134 rfl sponge_zero ?_; clear hS; intro w1 b3 hS) | (refine st_new hS rfl 35 rfl word_zero ?_; clear hS; intro w1 b2 hS))
  go_loopw [8] (fun i wr => ∃ k : Nat, k ≤ n ∧ i = .int .i64 (k : Int) ∧ St [] w wr [(b3, 134, spn (absL sp0 (cat LL k)).A (absL sp0 (cat LL k)).t), (b2, 35, wf fun _ => 0)]) (fun i _ => n - (intOf i).toNat)
  case atStart => exact ⟨0, by omega, rfl, hS⟩
  case round =>
    clear hS
    obtain ⟨k, hk, rfl, hS⟩ := hrel
    have ok : SpOk (absL sp0 (cat LL k)) := absL_ok sp0_ok (cat_lt fun i hi x hx => by
      obtain ⟨v, _, p, c, _, _, _, h4, _⟩ := HL.out.1 i (by omega)
      exact h4 x hx)
    have hstep : absL sp0 (cat LL (k + 1)) = absL (absL sp0 (cat LL k)) (LL k) := absL_append _ _ _
    obtain ⟨⟨A1, t1⟩, hs⟩ : ∃ s : Sp, s = absL sp0 (cat LL k) := ⟨_, rfl⟩
    rw [← hs] at hS ok hstep
    replace hS : St [] w wr [(b3, 134, spn A1 t1), (b2, 35, wf fun _ => 0)] := hS
    have hb3 : w.heap.size ≤ b3 := by rcases hS.own .head with h | h; exact h; simp at h
    by_cases hlt : k < n
    · obtain rfl := HL.out.2.2.1 (by omega)
      obtain ⟨v, hc, hv⟩ := HL.out.1 k hlt
      have hcr : wr.cell? ⟨pl, po + k, none⟩ = some v := (hS.frame.cell (p := ⟨pl, po + k, none⟩) (HL.out.2.1 (by omega)) (by simp)).trans hc
      have hsl : ∃ p l c, v = .slice p l c := by obtain ⟨p, c, h, _⟩ := hv; exact ⟨_, _, _, h⟩
      obtain ⟨p, l, c, rfl⟩ := hsl
      have hR := fun (w' : World) (h : Blk w' b3 134 (spn A1 t1)) (hT : Tch [] w w') => absorb_part b3 t1 (.slice p l c) (LL k) A1 w' w ok h hv hT hb3
      have HR := Lib.hid (And.intro hR hstep)
      have hd : decide (k < n) = true := by simpa using hlt
      clear hR hstep hs ok hv hc
      go_wp2_with (first | (go_at_call 67; refine (HR.out.1 _ (hS.get .head) hS.frame).mono ?_; rintro e w1 ⟨rfl, hT, hB⟩; replace hS := hS.on1 .head hT hB; clear hT hB))
      rw [← HR.out.2] at hS
      go_roundw
      case rel => exact ⟨k + 1, by omega, by go_num, hS⟩
      case measure => simp [intOf]; omega
    · obtain rfl : k = n := by omega
      have hd : decide (k < k) = false := by simp
      have hR := fun (w' : World) (h : Blk w' b3 134 (spn A1 t1)) => finish_any b3 t1 A1 w' ok.1 ok.2 h
      have hfin : finN ⟨A1, t1⟩ = finN (absL sp0 (cat LL k)) := by rw [hs]
      have HR := Lib.hid (And.intro hR hfin)
      clear hR hfin hs hstep ok
      go_wp2_with (first | (go_at_call 68; refine (HR.out.1 _ (hS.get .head)).mono ?_; rintro e w1 ⟨rfl, hT⟩; replace hS := hS.lose hT; clear hT) | (refine st_store hS rfl 35 _ _ rfl rfl rfl (by repeat (first | exact Upd.head | apply Upd.tail)) word_size (wf_size _) (wf_size _) (wf_one _) ?_; clear hS; intro w1 hS))
      rw [HR.out.2] at hS
      exact st_post hS 2 35 rfl rfl rfl (by repeat (first | exact At.head | apply At.tail)) word_type rfl word_size (wf_size _) (fun hb => ⟨rfl, hb⟩)
end Go.Proofs.YthchmnhoombecaaGreat
