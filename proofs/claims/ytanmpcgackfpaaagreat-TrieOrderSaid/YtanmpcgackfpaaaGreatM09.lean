/- The hash of parts. -/
import Derived.Test.YtanmpcgackfpaaaGreatM01
import Derived.Test.YtanmpcgackfpaaaGreatM02
import Derived.Test.YtanmpcgackfpaaaGreatM04
import Derived.Test.YtanmpcgackfpaaaGreatM07
import Derived.Test.YtanmpcgackfpaaaGreatM08
set_option linter.unusedVariables false
set_option linter.unusedSimpArgs false
namespace Go.Proofs.YtanmpcgackfpaaaGreat
section
open Go.RowKit
theorem sponge_lit : spn (fun _ => 0) 0 = #[.int .u64 0, .int .u64 0, .int .u64 0, .int .u64 0, .int .u64 0, .int .u64 0, .int .u64 0, .int .u64 0, .int .u64 0, .int .u64 0, .int .u64 0, .int .u64 0, .int .u64 0, .int .u64 0, .int .u64 0, .int .u64 0, .int .u64 0, .int .u64 0, .int .u64 0, .int .u64 0, .int .u64 0, .int .u64 0, .int .u64 0, .int .u64 0, .int .u64 0, .int .i64 0] := by kernel_rfl
theorem sponge_zero : (Tryz.prog.info? 110).bind (·.zero) = some (.agg (spn (fun _ => 0) 0)) := by rw [sponge_lit]; kernel_rfl
set_option maxHeartbeats 4000000 in
set_option maxRecDepth 100000 in
theorem absorb_none (b t d : Nat) (p : Option Addr) (A : Nat → Nat) (w : World) (hB : Blk w b 110 (spn A t)) :
    Calls Tryz.prog 47 #[.pointer (some ⟨b, 0, none⟩), .slice p 0 d] w fun e w' => e = .returned (.tuple #[]) ∧ Tch [b] w w' ∧ Blk w' b 110 (spn A t) := by
  have HB := hQz hB
  clear hB
  go_enter Tryz.func47, Tryz.ntmps47
  go_wp2
  go_loopw [1] (fun pv wr => pv = .slice p 0 d ∧ wr = w) (fun pv _ => slen pv)
  case atStart => exact ⟨rfl, rfl⟩
  case round =>
    obtain ⟨rfl, rfl⟩ := hrel
    go_wp2
    exact bodyPost_end (results_none rfl _ _ _) rfl ⟨rfl, Tch.refl _ _, HB.out⟩
def PartAt (w : World) (v : Value) (l : List Nat) : Prop := ∃ p c, v = .slice p l.length c ∧ l.length ≤ c ∧ l.length < 1000000 ∧ (∀ x ∈ l, x < 256) ∧ (l ≠ [] → ∃ pb o, p = some ⟨pb, o, none⟩ ∧ Bs w pb o l.length (fun i => l.getD i 0))
theorem PartAt.tch {bs : List Nat} {w w' : World} {v : Value} {l : List Nat} (h : PartAt w v l) (hT : Tch bs w w') (hb : ∀ x ∈ bs, w.heap.size ≤ x) : PartAt w' v l := by
  obtain ⟨p, c, h1, h2, h3, h4, h5⟩ := h
  refine ⟨p, c, h1, h2, h3, h4, fun hl => ?_⟩
  obtain ⟨pb, o, h6, h7⟩ := h5 hl
  exact ⟨pb, o, h6, h7.tch hT fun hm => by have := hb _ hm; have := h7.1; omega⟩
theorem bl_list (l : List Nat) : bl (fun i => l.getD i 0) l.length = l := by
  apply List.ext_getElem?
  intro i
  unfold bl
  rw [List.getElem?_map]
  by_cases h : i < l.length
  · rw [List.getElem?_range h]; simp [h]
  · rw [List.getElem?_eq_none (by simpa using h), List.getElem?_eq_none (by simpa using h)]; rfl
theorem absorb_part (b t : Nat) (v : Value) (l : List Nat) (A : Nat → Nat) (w w0 : World) (hok : SpOk ⟨A, t⟩) (hB : Blk w b 110 (spn A t)) (hP : PartAt w0 v l) (hT : Tch [] w0 w) (hb : w0.heap.size ≤ b) :
    Calls Tryz.prog 47 #[.pointer (some ⟨b, 0, none⟩), v] w fun e w' => e = .returned (.tuple #[]) ∧ Tch [b] w w' ∧ Blk w' b 110 (spn (absL ⟨A, t⟩ l).A (absL ⟨A, t⟩ l).t) := by
  obtain ⟨p, c, rfl, h2, h3, h4, h5⟩ := hP
  by_cases hl : l = []
  · subst hl; exact absorb_none b t c p A w hB
  · obtain ⟨pb, o, rfl, h7⟩ := h5 hl
    have hne : pb ≠ b := by have := h7.1; omega
    have := absorb_any b pb o l.length c t (fun i => l.getD i 0) A w hok hB (h7.tch hT (by simp)) hne h3 h2
    rwa [bl_list] at this
def cat (LL : Nat → List Nat) : Nat → List Nat
  | 0 => []
  | n + 1 => cat LL n ++ LL n
theorem cat_lt {LL : Nat → List Nat} : ∀ {n : Nat}, (∀ i, i < n → ∀ x ∈ LL i, x < 256) → ∀ x ∈ cat LL n, x < 256
  | 0, _, x, hx => by simp [cat] at hx
  | n + 1, h, x, hx => by
    rcases List.mem_append.1 hx with h1 | h1
    · exact cat_lt (fun i hi => h i (by omega)) x h1
    · exact h n (by omega) x h1
set_option maxHeartbeats 4000000 in
set_option maxRecDepth 100000 in
theorem sum_any (pl po n cc : Nat) (LL : Nat → List Nat) (w : World) (hn : n < 1000000) (hP : 0 < n → pl < w.heap.size) (hL : ∀ i, i < n → ∃ v, w.cell? ⟨pl, po + i, none⟩ = some v ∧ PartAt w v (LL i)) (pp : Option Addr) (hpp : 0 < n → pp = some ⟨pl, po, none⟩) :
    Calls Tryz.prog 24 #[.slice pp n cc] w fun e w' => e = .returned (.agg (wf (hashN (cat LL n)))) ∧ Tch [] w w' := by
  have HL := hQz (And.intro hL (And.intro hP (And.intro hpp hn)))
  have hS := St.start w
  clear hL hP hpp
  go_enter Tryz.func24, Tryz.ntmps24
  go_wp2_with (first | (have _t := b2; clear _t; refine qe3 hS rfl 110 rfl sponge_zero ?_; clear hS; intro w1 b3 hS) | (refine qe3 hS rfl 32 rfl qd5 ?_; clear hS; intro w1 b2 hS))
  go_loopw [8] (fun i wr => ∃ k : Nat, k ≤ n ∧ i = .int .i64 (k : Int) ∧ St [] w wr [(b3, 110, spn (absL sp0 (cat LL k)).A (absL sp0 (cat LL k)).t), (b2, 32, wf fun _ => 0)]) (fun i _ => n - (intOf i).toNat)
  case atStart => exact ⟨0, by omega, rfl, hS⟩
  case round =>
    clear hS
    obtain ⟨k, hk, rfl, hS⟩ := hrel
    have ok : SpOk (absL sp0 (cat LL k)) := absL_ok sp0_ok (cat_lt fun i hi x hx => by
      obtain ⟨v, _, p, c, _, _, _, h4, _⟩ := HL.out.1 i (by omega)
      exact h4 x hx)
    have hstep : absL sp0 (cat LL (k + 1)) = absL (absL sp0 (cat LL k)) (LL k) := qi3 _ _ _
    obtain ⟨⟨A1, t1⟩, hs⟩ : ∃ s : Sp, s = absL sp0 (cat LL k) := ⟨_, rfl⟩
    rw [← hs] at hS ok hstep
    replace hS : St [] w wr [(b3, 110, spn A1 t1), (b2, 32, wf fun _ => 0)] := hS
    have hb3 : w.heap.size ≤ b3 := by rcases hS.own .head with h | h; exact h; simp at h
    by_cases hlt : k < n
    · obtain rfl := HL.out.2.2.1 (by omega)
      obtain ⟨v, hc, hv⟩ := HL.out.1 k hlt
      have hcr : wr.cell? ⟨pl, po + k, none⟩ = some v := (hS.frame.cell (p := ⟨pl, po + k, none⟩) (HL.out.2.1 (by omega)) (by simp)).trans hc
      have hsl : ∃ p l c, v = .slice p l c := by obtain ⟨p, c, h, _⟩ := hv; exact ⟨_, _, _, h⟩
      obtain ⟨p, l, c, rfl⟩ := hsl
      have hR := fun (w' : World) (h : Blk w' b3 110 (spn A1 t1)) (hT : Tch [] w w') => absorb_part b3 t1 (.slice p l c) (LL k) A1 w' w ok h hv hT hb3
      have HR := hQz (And.intro hR hstep)
      have hd : decide (k < n) = true := by simpa using hlt
      clear hR hstep hs ok hv hc
      go_wp2_with (first | (go_at_call 47; refine (HR.out.1 _ (hS.get .head) hS.frame).mono ?_; rintro e w1 ⟨rfl, hT, hB⟩; replace hS := hS.on1 .head hT hB; clear hT hB))
      rw [← HR.out.2] at hS
      go_roundw
      case rel => exact ⟨k + 1, by omega, by go_num, hS⟩
      case measure => simp [intOf]; omega
    · obtain rfl : k = n := by omega
      have hd : decide (k < k) = false := by simp
      have hR := fun (w' : World) (h : Blk w' b3 110 (spn A1 t1)) => finish_any b3 t1 A1 w' ok.1 ok.2 h
      have hfin : finN ⟨A1, t1⟩ = finN (absL sp0 (cat LL k)) := by rw [hs]
      have HR := hQz (And.intro hR hfin)
      clear hR hfin hs hstep ok
      go_wp2_with (first | (go_at_call 48; refine (HR.out.1 _ (hS.get .head)).mono ?_; rintro e w1 ⟨rfl, hT⟩; replace hS := hS.lose hT; clear hT) | (refine qe4 hS rfl 32 _ _ rfl rfl rfl (by repeat (first | exact Upd.head | apply Upd.tail)) qb4 (qa5 _) (qa5 _) (qj1 _) ?_; clear hS; intro w1 hS))
      rw [HR.out.2] at hS
      exact qf5 hS 2 32 rfl rfl rfl (by repeat (first | exact At.head | apply At.tail)) qc7 rfl qb4 (qa5 _) (fun hb => ⟨rfl, hb⟩)
end
section
def xr (A : Nat → Nat) (f : Nat → Nat) : Nat → (Nat → Nat)
  | 0 => A
  | i + 1 => xorAt (xr A f i) i (f i)
theorem xr_congr {A f g : Nat → Nat} : ∀ {n : Nat}, (∀ i, i < n → f i = g i) → xr A f n = xr A g n
  | 0, _ => rfl
  | n + 1, h => by
    show xorAt (xr A f n) n (f n) = xorAt (xr A g n) n (g n)
    rw [xr_congr (n := n) (fun i hi => h i (by omega)), h n (by omega)]
theorem xr_lan {A f : Nat → Nat} (hA : Lan A) (hf : ∀ i, f i < 256) : ∀ n, Lan (xr A f n)
  | 0 => hA
  | n + 1 => xorAt_lan (xr_lan hA hf n) (hf n)
theorem absL_in (A : Nat → Nat) (l : List Nat) (hl : l.length = 136) : ∀ i, i ≤ 135 → absL ⟨A, 0⟩ (l.take i) = ⟨xr A (fun i => l.getD i 0) i, i⟩
  | 0, _ => by simp [absL_nil, xr]
  | i + 1, hi => by
    have hlt : i < l.length := by omega
    rw [List.take_succ_eq_append_getElem hlt, qi3, absL_in A l hl i (by omega), qh5, absL_nil, abs1_in (by show i + 1 < 136; omega)]
    show Sp.mk (xorAt _ i l[i]) (i + 1) = ⟨xorAt _ i (l.getD i 0), i + 1⟩
    rw [List.getD_eq_getElem?_getD, List.getElem?_eq_getElem hlt]; rfl
theorem absL_blk (A : Nat → Nat) (l : List Nat) (hl : l.length = 136) : absL ⟨A, 0⟩ l = ⟨permN (xr A (fun i => l.getD i 0) 136), 0⟩ := by
  have h1 : l = l.take 135 ++ [l.getD 135 0] := by
    have := List.take_succ_eq_append_getElem (l := l) (i := 135) (by omega)
    rw [show 135 + 1 = l.length by omega, List.take_length] at this
    rw [List.getD_eq_getElem?_getD, List.getElem?_eq_getElem (by omega)]
    exact this
  conv => lhs; rw [h1]
  rw [qi3, absL_in A l hl 135 (by omega), qh5, absL_nil, abs1_full _ rfl]
  rfl
def stN (M : List Nat) : Nat → (Nat → Nat)
  | 0 => fun _ => 0
  | j + 1 => permN (xr (stN M j) (fun i => M.getD (136 * j + i) 0) 136)
theorem getD_lt {M : List Nat} (h : ∀ x ∈ M, x < 256) (i : Nat) : M.getD i 0 < 256 := by
  rw [List.getD_eq_getElem?_getD]
  cases hq : M[i]? with
  | none => exact (by decide : (0 : Nat) < 256)
  | some y => exact h y (List.mem_of_getElem? hq)
theorem stN_lan {M : List Nat} (h : ∀ x ∈ M, x < 256) : ∀ j, Lan (stN M j)
  | 0 => fun _ => Nat.zero_lt_succ _
  | j + 1 => perm_lan (xr_lan (stN_lan h j) (fun i => getD_lt h _) 136)
theorem absL_st (M : List Nat) : ∀ j, 136 * j ≤ M.length → absL sp0 (M.take (136 * j)) = ⟨stN M j, 0⟩
  | 0, _ => by simp [absL_nil, stN, sp0]
  | j + 1, h => by
    have e : M.take (136 * (j + 1)) = M.take (136 * j) ++ (M.drop (136 * j)).take 136 := by
      rw [show 136 * (j + 1) = 136 * j + 136 by omega, List.take_add]
    have hl : ((M.drop (136 * j)).take 136).length = 136 := by rw [List.length_take, List.length_drop]; omega
    rw [e, qi3, absL_st M j (by omega), absL_blk _ _ hl]
    show Sp.mk _ 0 = Sp.mk (permN (xr (stN M j) (fun i => M.getD (136 * j + i) 0) 136)) 0
    rw [xr_congr (g := fun i => M.getD (136 * j + i) 0)]
    intro i hi
    simp only [List.getD_eq_getElem?_getD, List.getElem?_take, hi, if_true, List.getElem?_drop]
theorem padL_len {t : Nat} (h : t < 136) : (padL t).length = 136 - t := by
  unfold padL
  split
  · rename_i e; subst e; rfl
  · simp; omega
def padded (l : List Nat) : List Nat := l ++ padL (l.length % 136)
theorem padded_len (l : List Nat) : (padded l).length = 136 * (l.length / 136 + 1) := by
  unfold padded
  rw [List.length_append, padL_len (Nat.mod_lt _ (by decide))]
  have := Nat.mod_lt l.length (show 0 < 136 by decide)
  omega
theorem padded_lt {l : List Nat} (h : ∀ x ∈ l, x < 256) : ∀ x ∈ padded l, x < 256 := by
  intro x hx
  rcases List.mem_append.1 hx with hx | hx
  · exact h x hx
  · unfold padL at hx
    split at hx
    · simp at hx; omega
    · simp at hx
      rcases hx with hx | ⟨_, hx⟩ | hx <;> omega
theorem hash_st (l : List Nat) : hashN l = outN (stN (padded l) (l.length / 136 + 1)) := by
  rw [hash_padded]
  have h := absL_st (padded l) (l.length / 136 + 1) (Nat.le_of_eq (padded_len l).symm)
  rw [← padded_len, List.take_length] at h
  show outN (absL sp0 (padded l)).A = _
  rw [h]
def part1 (l : List Nat) (k : Nat) : List Nat := l ++ 1 :: List.replicate k 0
theorem part1_len (l : List Nat) (k : Nat) : (part1 l k).length = l.length + 1 + k := by unfold part1; simp; omega
theorem part1_lt {l : List Nat} (h : ∀ x ∈ l, x < 256) (k : Nat) : ∀ x ∈ part1 l k, x < 256 := by
  intro x hx
  unfold part1 at hx
  simp at hx
  rcases hx with hx | hx | ⟨_, hx⟩
  · exact h x hx
  · omega
  · omega
theorem part1_snoc (l : List Nat) (k : Nat) : part1 l k ++ [0] = part1 l (k + 1) := by
  unfold part1
  rw [List.append_assoc, List.cons_append, ← List.replicate_succ']
theorem part1_zero (l : List Nat) : l ++ [1] = part1 l 0 := rfl
theorem part1_set (l : List Nat) (k : Nat) (hk : (l.length + 1 + k) % 136 = 0) (hk2 : k < 136) : (part1 l k).set (l.length + k) ((part1 l k).getD (l.length + k) 0 ||| 128) = padded l := by
  unfold part1 padded
  have ht : l.length % 136 = 135 - k := by omega
  rw [ht, List.set_append_right _ _ (by omega), Nat.add_sub_cancel_left, List.getD_eq_getElem?_getD, List.getElem?_append_right (by omega), Nat.add_sub_cancel_left]
  congr 1
  unfold padL
  cases k with
  | zero => rfl
  | succ k =>
    rw [if_neg (by omega), List.getElem?_cons_succ, List.getElem?_replicate, if_pos (by omega), List.set_cons_succ, show 134 - (135 - (k + 1)) = k by omega]
    congr 1
    rw [List.replicate_succ', List.set_append_right _ _ (by simp), List.length_replicate, Nat.sub_self]
    rfl
end
section
open Go.RowKit
section
variable {a : Act} {w : World} {o : Oper} {x y : Operand} {ty yt : TypeId}
theorem qb2 {v : Value} (ho : o.op = .move x ∨ o.op = .assign x) (hx : a.eval x = v) : (execOp a.eval o).run Tryz.prog w = .ok (.value v) w := by
  unfold execOp; rcases ho with ho | ho <;> simp only [ho, hx] <;> rfl
theorem x_quo8 {i : Nat} (hi : i < 1000000000) (ho : o.op = .binOp .quo 3 x y yt) (hx : a.eval x = .int .i64 (i : Int)) (hy : a.eval y = .int .i64 8) : (execOp a.eval o).run Tryz.prog w = .ok (.value (.int .i64 ((i / 8 : Nat) : Int))) w := by
  have h : IntKind.i64.wrap ((i : Int).tdiv 8) = ((i / 8 : Nat) : Int) := by rw [Int.tdiv_eq_ediv_of_nonneg (by omega), IntWalk.i64_in _ (by omega)]; omega
  unfold execOp; simp only [ho, hx, hy]; show Sem.run _ _ w = _; simp [eqGuard, binOp, Op.intArith, Op.intDiv, h]; exact IntWalk.i64_in _ (by omega)
theorem x_rem8 {i : Nat} (hi : i < 1000000000) (ho : o.op = .binOp .rem 3 x y yt) (hx : a.eval x = .int .i64 (i : Int)) (hy : a.eval y = .int .i64 8) : (execOp a.eval o).run Tryz.prog w = .ok (.value (.int .i64 ((i % 8 : Nat) : Int))) w := by
  have h : IntKind.i64.wrap ((i : Int).tmod 8) = ((i % 8 : Nat) : Int) := by rw [Int.tmod_eq_emod_of_nonneg (by omega), IntWalk.i64_in _ (by omega)]; omega
  unfold execOp; simp only [ho, hx, hy]; show Sem.run _ _ w = _; simp [eqGuard, binOp, Op.intArith, Op.intDiv, h]; exact Int.tmod_eq_emod_of_nonneg (by omega)
theorem x_mul8 {r : Nat} (hr : r < 8) (ho : o.op = .binOp .mul 3 x y yt) (hx : a.eval x = .int .i64 (r : Int)) (hy : a.eval y = .int .i64 8) : (execOp a.eval o).run Tryz.prog w = .ok (.value (.int .i64 ((8 * r : Nat) : Int))) w := by
  have h : IntKind.i64.wrap ((r : Int) * 8) = ((8 * r : Nat) : Int) := by rw [IntWalk.i64_in _ (by omega)]; omega
  unfold execOp; simp only [ho, hx, hy]; show Sem.run _ _ w = _; simp [eqGuard, binOp, Op.intArith, h]
theorem x_addN {m n : Nat} (hm : m + n < 1000000000) (ho : o.op = .binOp .add 3 x y yt) (hx : a.eval x = .int .i64 (m : Int)) (hy : a.eval y = .int .i64 (n : Int)) : (execOp a.eval o).run Tryz.prog w = .ok (.value (.int .i64 ((m + n : Nat) : Int))) w := by
  have h : IntKind.i64.wrap ((m : Int) + (n : Int)) = ((m + n : Nat) : Int) := by rw [IntWalk.i64_in _ (by omega)]; omega
  unfold execOp; simp only [ho, hx, hy]; show Sem.run _ _ w = _; simp [eqGuard, binOp, Op.intArith, h]
theorem x_convI {s : Nat} (hs : s < 1000000000) (ho : o.op = .convert 3 74 x) (hx : a.eval x = .int .i64 (s : Int)) : (execOp a.eval o).run Tryz.prog w = .ok (.value (.int .u64 (s : Int))) w := by
  have h : IntKind.u64.wrap (s : Int) = (s : Int) := by rw [IntKind.wrap_u64]; omega
  have h1 : Tryz.prog.underlying 3 = some (.int .i64) := by kernel_rfl
  have h2 : Tryz.prog.underlying 74 = some (.int .u64) := by kernel_rfl
  unfold execOp; simp only [ho, hx]; show Sem.run _ _ w = _; simp [convert, run_underlying h1, run_underlying h2, Conv.intToInt, h]
theorem x_conv8 {v : Nat} (hv : v < 256) (ho : o.op = .convert 5 72 x) (hx : a.eval x = .int .u8 (v : Int)) : (execOp a.eval o).run Tryz.prog w = .ok (.value (.int .u64 (v : Int))) w := by
  have h : IntKind.u64.wrap (v : Int) = (v : Int) := by rw [IntKind.wrap_u64]; omega
  have h1 : Tryz.prog.underlying 5 = some (.int .u8) := by kernel_rfl
  have h2 : Tryz.prog.underlying 72 = some (.int .u64) := by kernel_rfl
  unfold execOp; simp only [ho, hx]; show Sem.run _ _ w = _; simp [convert, run_underlying h1, run_underlying h2, Conv.intToInt, h]
theorem x_shlB {v r : Nat} (hv : v < 256) (hr : r < 8) (ho : o.op = .binOp .shl 72 x y 74) (hx : a.eval x = .int .u64 (v : Int)) (hy : a.eval y = .int .u64 ((8 * r : Nat) : Int)) : (execOp a.eval o).run Tryz.prog w = .ok (.value (.int .u64 ((v * 2 ^ (8 * r) : Nat) : Int))) w := by
  have hlt := shifted_lt hv hr
  have e : (v : Int) * 2 ^ (8 * r) = ((v * 2 ^ (8 * r) : Nat) : Int) := by rw [Int.natCast_mul, Int.natCast_pow]; rfl
  have h : IntKind.u64.wrap ((v : Int) * 2 ^ (8 * r)) = (v : Int) * 2 ^ (8 * r) := by
    rw [IntKind.wrap_u64, e]
    generalize v * 2 ^ (8 * r) = z at *
    omega
  have e2 : (8 * (r : Int)).toNat = 8 * r := by omega
  unfold execOp; simp only [ho, hx, hy]; show Sem.run _ _ w = _; simp [eqGuard, binOp, Op.shift, e2, h]
theorem x_shrB {n r : Nat} (hr : r < 8) (ho : o.op = .binOp .shr 72 x y 74) (hx : a.eval x = .int .u64 (n : Int)) (hy : a.eval y = .int .u64 ((8 * r : Nat) : Int)) : (execOp a.eval o).run Tryz.prog w = .ok (.value (.int .u64 ((n / 2 ^ (8 * r) : Nat) : Int))) w := by
  have e2 : (8 * (r : Int)).toNat = 8 * r := by omega
  unfold execOp; simp only [ho, hx, hy]; show Sem.run _ _ w = _; simp [eqGuard, binOp, Op.shift, e2]
theorem x_and255 {n : Nat} (hn : n < 18446744073709551616) (ho : o.op = .binOp .and 72 x y yt) (hx : a.eval x = .int .u64 (n : Int)) (hy : a.eval y = .int .u64 255) : (execOp a.eval o).run Tryz.prog w = .ok (.value (.int .u64 ((n % 256 : Nat) : Int))) w := by
  have h : bits BinOp.and IntKind.u64 (n : Int) 255 = ((n % 256 : Nat) : Int) := by
    rw [show (255 : Int) = ((255 : Nat) : Int) from rfl, u64_and_nat n 255 hn (by decide), show (255 : Nat) = 2 ^ 8 - 1 from rfl, Nat.and_two_pow_sub_one_eq_mod]
  unfold execOp; simp only [ho, hx, hy]; show Sem.run _ _ w = _; simp [eqGuard, binOp, Op.intBits]; exact h
theorem x_convB {n : Nat} (hn : n < 256) (ho : o.op = .convert 72 5 x) (hx : a.eval x = .int .u64 (n : Int)) : (execOp a.eval o).run Tryz.prog w = .ok (.value (.int .u8 (n : Int))) w := by
  have h : IntKind.u8.wrap (n : Int) = (n : Int) := by rw [IntKind.wrap_u8]; omega
  have h1 : Tryz.prog.underlying 5 = some (.int .u8) := by kernel_rfl
  have h2 : Tryz.prog.underlying 72 = some (.int .u64) := by kernel_rfl
  unfold execOp; simp only [ho, hx]; show Sem.run _ _ w = _; simp [convert, run_underlying h1, run_underlying h2, Conv.intToInt, h]
end
end
section
open Go.RowKit
def lenOf : Value → Nat
  | .slice _ n _ => n
  | _ => 0
theorem own_slice {w : World} {B n : Nat} {v : Value} {xs : List Value} (h : w.ownsRow B 5 1 v n xs) : ∃ p c, v = .slice p n c := by
  obtain ⟨h1, h2⟩ := h
  rcases h2 with ⟨rfl, h0⟩ | ⟨g, cap, cur, rfl, _⟩
  · obtain rfl : n = 0 := by omega
    exact ⟨_, _, rfl⟩
  · exact ⟨_, _, rfl⟩
def Cur (M : List Nat) (cur : Array Value) : Prop := M.length ≤ cur.size ∧ ∀ i, i < M.length → cur[i]? = some (.int .u8 ((M.getD i 0 : Nat) : Int))
theorem own_cur {w : World} {B : Nat} {v : Value} {M : List Nat} (h : w.ownsRow B 5 1 v M.length (nb M)) (hM : M ≠ []) : ∃ g c cur, v = .slice (some ⟨g, 0, none⟩) M.length c ∧ B ≤ g ∧ Blk w g 5 cur ∧ Cur M cur := by
  obtain ⟨h1, h2⟩ := h
  rcases h2 with ⟨rfl, h0⟩ | ⟨g, cap, cur, rfl, hg, hb, hn, _, hcs, htk⟩
  · exact absurd (List.length_eq_zero_iff.1 h0) hM
  · have hB : Blk w g 5 cur := hb
    have key : ∀ i, i < M.length → cur[i]? = some (.int .u8 ((M.getD i 0 : Nat) : Int)) := fun i hi => by
      have e := congrArg (fun x => x[i]?) htk
      simp only [Nat.mul_one, List.getElem?_take, hi, if_true, nb_get hi] at e
      simpa using e
    refine ⟨g, cap, cur, rfl, hg, hB, ?_, key⟩
    by_cases h0 : M.length = 0
    · omega
    · have := key (M.length - 1) (by omega)
      have := (Array.getElem?_eq_some_iff.1 this).1
      omega
theorem Cur.set {M : List Nat} {cur : Array Value} {j x : Nat} (h : Cur M cur) (hj : j < M.length) : Cur (M.set j x) (cur.setIfInBounds j (.int .u8 (x : Int))) := by
  refine ⟨by rw [List.length_set, Array.size_setIfInBounds]; exact h.1, fun i hi => ?_⟩
  rw [List.length_set] at hi
  rw [Array.getElem?_setIfInBounds]
  by_cases hij : j = i
  · subst hij
    rw [if_pos rfl, if_pos (by have := h.1; omega)]
    congr 3
    simp [hj]
  · rw [if_neg hij, h.2 i hi]
    congr 3
    simp [List.getD_eq_getElem?_getD, List.getElem?_set, hij]
theorem or128 : ∀ a : Fin 256, bits BinOp.or IntKind.u8 (a.val : Int) 128 = ((a.val ||| 128 : Nat) : Int) := by decide +kernel
theorem uf_lay (A : Nat → Nat) : uf 25 A = lay (uf 25 fun _ => 0) A := by
  apply Array.ext_getElem?
  intro i
  by_cases hi : i < 25
  · rw [uf_get hi, qa8 hi (by rw [uf_size]; omega)]
  · rw [Array.getElem?_eq_none (by rw [uf_size]; omega), Array.getElem?_eq_none (by rw [qb9, uf_size]; omega)]
theorem lanes_lit : uf 25 (fun _ => 0) = #[.int .u64 0, .int .u64 0, .int .u64 0, .int .u64 0, .int .u64 0, .int .u64 0, .int .u64 0, .int .u64 0, .int .u64 0, .int .u64 0, .int .u64 0, .int .u64 0, .int .u64 0, .int .u64 0, .int .u64 0, .int .u64 0, .int .u64 0, .int .u64 0, .int .u64 0, .int .u64 0, .int .u64 0, .int .u64 0, .int .u64 0, .int .u64 0, .int .u64 0] := by kernel_rfl
theorem rlanes_zero : (Tryz.prog.info? 73).bind (·.zero) = some (.agg (uf 25 fun _ => 0)) := by rw [lanes_lit]; kernel_rfl
section
variable {P : Program} {ops : Array Oper} {rest : List Oper} {o : Oper} {a : Act} {bs : List Nat} {w0 w : World} {Q : Exit → Act → World → Prop} {L : List Ent}
theorem st_new1 {k : IntKind} {n : Int} (hS : St bs w0 w L) (hgd : o.guard = none) (ty : TypeId) (ho : o.op = .alloc ty) (hz : (P.info? ty).bind (·.zero) = some (.int k n))
    (h : ∀ w' b, St bs w0 w' ((b, ty, #[.int k n]) :: L) → wpList P ops Q rest (a.put o.dst (.pointer (some ⟨b, 0, none⟩))) w') : wpList P ops Q (o :: rest) a w :=
  wpList_plain hgd fun K hK => by
    have hr : (Instr.alloc ty true (.tuple #[])).run P w = .ok (.pointer (some ⟨w.heap.size, 0, none⟩)) (w.alloc (.cells #[.int k n] ty)) := by
      cases hq : P.info? ty with
      | none => simp [hq] at hz
      | some i =>
        have hz' : i.zero = some (.int k n) := by simpa [hq] using hz
        simp [Instr.alloc, zeroValue, typeInfo, hq, hz', newVar, newRow, Value.cells]
    unfold Oper.wp execOp
    simp only [ho, Sem.run_bind, hr, Result.andThen_ok, Sem.run_pure]
    exact hK _ _ (h _ _ (hS.new ty #[.int k n]))
end
theorem xr_step {z : Array Value} (A F : Nat → Nat) (n : Nat) : lay z (fun i => if i = n / 8 then xr A F n (n / 8) ^^^ F n * 2 ^ (8 * (n % 8)) else xr A F n i) = lay z (xr A F (n + 1)) := qe0 fun i _ => by
  show _ = xorAt (xr A F n) n (F n) i
  rw [two_xor]
  by_cases h : i = n / 8
  · rw [if_pos h, if_pos h, h]
  · rw [if_neg h, if_neg h]
theorem u8_zero : (Tryz.prog.info? 5).bind (·.zero) = some (.int .u8 0) := by kernel_rfl
set_option maxHeartbeats 40000000 in
set_option maxRecDepth 100000 in
theorem keccak_any (v : Value) (l : List Nat) (w : World) (hm : l.length ≤ 1000000) (hv : RdA [] w v l) :
    Calls Tryz.prog 12 #[v] w fun e w' => e = .returned (.agg (wf (hashN l))) ∧ Tch [] w w' := by
  have hS := St.start w
  have HL := hQz hm
  have HLT := hQz hv.lt
  have HV := hQz (fun (w' : World) (h : Tch [] w w') => (hv.tch h).rdB)
  obtain ⟨p0, n0, c0, rfl⟩ := qb3 hv
  clear hv hm
  go_enter Tryz.func12, Tryz.ntmps12
  go_upto_region 2 with (first
    | (refine qe3 hS rfl 32 rfl qd5 ?_; clear hS; intro w1 b2 hS)
    | (at_builtin; (refine qj3 (w0 := w1) (w := w1) (v := .slice none 0 0) (u := .slice p0 n0 c0) (l := []) (m := l) (ty := 5) rfl _ _ rfl rfl rfl (own_nil _ _) (Tch.refl _ _) (HV.out _ hS.frame) (by have := HL.out; simp; omega) ?_; intro v3 w3 hown3 hT3))
    | (at_builtin; (refine qj3 (w0 := w1) (w := w3.alloc _) (v := v3) (u := .slice (some ⟨w3.heap.size, 0, none⟩) 1 1) (l := [] ++ l) (m := [1]) (ty := 5) rfl _ _ rfl rfl rfl (hown3.alloc _) (hT3.alloc _) (RdB.lit w3 _ [1] (by simp) #[.int .u8 1] rfl) (by have := HL.out; simp; omega) ?_; intro v4 w4 hown4 hT4)))
  rw [List.nil_append, part1_zero] at hown4
  clear hown3 hT3
  go_loopw [3] (fun u wr => ∃ k : Nat, k ≤ 135 - l.length % 136 ∧ wr.ownsRow w1.heap.size 5 1 u (part1 l k).length (nb (part1 l k)) ∧ Tch [] w1 wr) (fun u _ => l.length + 1 + 136 - lenOf u)
  case atStart => exact ⟨0, Nat.zero_le _, hown4, hT4⟩
  case round =>
    clear hown4 hT4
    obtain ⟨k, hk, hown, hT⟩ := hrel
    have hNk := part1_len l k
    by_cases h0 : (l.length + 1 + k) % 136 = 0
    · obtain ⟨g, c, cur, rfl, hg, hB, hcur⟩ := own_cur hown (by unfold part1; simp)
      clear hown
      generalize hNe : (part1 l k).length = N at *
      have hl6 := HL.out
      have r1 : (N : Int).tmod 136 = (N : Int) % 136 := Int.tmod_eq_emod_of_nonneg (by omega)
      have r2 : (N : Int) % 136 = 0 := by omega
      obtain ⟨J, hJ⟩ : ∃ J, J = N - 1 := ⟨_, rfl⟩
      have e1 : IntKind.i64.wrap ((N : Int) - 1) = (J : Int) := by rw [IntWalk.i64_in _ (by omega)]; omega
      have e2 : (J : Int) < (N : Int) := by omega
      have e3 : J < N := by omega
      have hset := part1_set l k h0 (by omega)
      rw [show l.length + k = J by omega] at hset
      have hcs := Cur.set (x := (part1 l k).getD J 0 ||| 128) hcur (j := J) (by omega)
      rw [hset] at hcs
      have hcell := hcur.2 J (by omega)
      have hx := getD_lt (part1_lt HLT.out k) J
      have hsz : J < cur.size := by have := hcur.1; omega
      have hor := or128 ⟨(part1 l k).getD J 0, hx⟩
      simp only at hor
      generalize (part1 l k).getD J 0 = x at *
      have hS2 := hS.callNew hT hB hg
      have hg2 := (hS2.get .head).cell hcell
      have HP := hQz (And.intro hcs hNe)
      have HNB := hQz (show N = 136 * (l.length / 136 + 1) by omega)
      have HO := hQz hor
      clear hS hcs hcell hset hB hcur hT hNe hNk hJ hx hk h0 hl6 hor
      go_upto_region 5 with (first
        | (refine qg5 (b := g) (j := J) hS2 rfl 5 _ rfl rfl .head hcell qg6 ?_)
        | (refine qa7 (b := g) (j := J) hS2 rfl 5 _ _ rfl rfl rfl qb6 (by repeat (first | exact Upd.head | apply Upd.tail)) hsz ?_; clear hS2; intro w5 hS))
      rw [HO.out] at hS
      obtain ⟨cur2, hc2⟩ : ∃ cur2, cur2 = cur.setIfInBounds J (.int .u8 ((x ||| 128 : Nat) : Int)) := ⟨_, rfl⟩
      rw [← hc2] at hS
      have HC := HP.out.1
      rw [← hc2] at HC
      obtain ⟨M, hM⟩ : ∃ M, M = padded l := ⟨_, rfl⟩
      have hML : M.length = N := by rw [hM, padded_len]; exact HNB.out.symm
      have hMlt : ∀ y ∈ M, y < 256 := by rw [hM]; exact padded_lt HLT.out
      have HH := hQz (show hashN l = outN (stN M (l.length / 136 + 1)) by rw [hM]; exact hash_st l)
      rw [← hM] at HC
      have HCur := hQz (And.intro HC (And.intro hML hMlt))
      obtain ⟨B, hB⟩ : ∃ B, B = l.length / 136 + 1 := ⟨_, rfl⟩
      have HNB2 := hQz (show N = 136 * B ∧ B ≤ 10000 from ⟨by rw [hB]; exact HNB.out, by have := HL.out; omega⟩)
      rw [← hB] at HH
      clear hc2 HC hM hML hMlt hB HNB HP HO hg2 hsz r1 r2 e1 e2 e3
      try simp only [Act.put, ppA, ppB, ppC]
      go_upto_region 7 with (first | (refine qe3 hS rfl 73 rfl rlanes_zero ?_; clear hS; intro w6 ba hS))
      rw [uf_lay] at hS
      obtain ⟨z, hz⟩ : ∃ z, z = uf 25 (fun _ => 0) := ⟨_, rfl⟩
      have HZ := hQz (show 25 ≤ z.size by rw [hz, uf_size]; omega)
      rw [← hz] at hS
      clear hz
      go_loopw [5, 6, 7, 8] (fun f _ _ _ wr => ∃ j q : Nat, j ≤ B ∧ Hid (q = 136 * j) ∧ f = .int .i64 (q : Int) ∧ St [] w wr [(ba, 73, lay z (stN M j)), (g, 5, cur2), (b2, 32, wf fun _ => 0)]) (fun f _ _ _ _ => 136 * B + 136 - (intOf f).toNat)
      case atStart => exact ⟨0, 0, Nat.zero_le _, hQz rfl, rfl, hS⟩
      case round =>
        clear hS
        obtain ⟨j, q, hj, HQ, rfl, hS⟩ := hrel
        by_cases hjb : j < B
        · have h1 : (q : Int) < (N : Int) := by have := HQ.out; have := HNB2.out; omega
          obtain ⟨X0, hX0⟩ : ∃ X0, X0 = stN M j := ⟨_, rfl⟩
          obtain ⟨F, hF⟩ : ∃ F : Nat → Nat, F = fun i => M.getD (136 * j + i) 0 := ⟨_, rfl⟩
          have HX0 := hQz (show Lan X0 by rw [hX0]; exact stN_lan HCur.out.2.2 j)
          have HF := hQz (show ∀ i, F i < 256 by intro i; rw [hF]; exact getD_lt HCur.out.2.2 _)
          have HFC := hQz (show ∀ i, i < 136 → cur2[0 + (q + i)]? = some (.int .u8 ((F i : Nat) : Int)) from fun i hi => by
            rw [Nat.zero_add, hF, HCur.out.1.2 (q + i) (by rw [HCur.out.2.1]; have := HQ.out; have := HNB2.out; omega), HQ.out])
          have HST := hQz (show stN M (j + 1) = permN (xr X0 F 136) by rw [hX0, hF]; rfl)
          have HJB := hQz hjb
          rw [← hX0] at hS
          clear hX0 hF hj hjb
          go_upto_region 10 with (fail)
          clear h1
          go_loopw [6] (fun i wr => ∃ n : Nat, n ≤ 136 ∧ i = .int .i64 (n : Int) ∧ St [] w wr [(ba, 73, lay z (xr X0 F n)), (g, 5, cur2), (b2, 32, wf fun _ => 0)]) (fun i _ => 136 - (intOf i).toNat)
          case atStart => exact ⟨0, by omega, rfl, hS⟩
          case round =>
            clear hS
            obtain ⟨n, hn, rfl, hS⟩ := hrel
            by_cases hlt : n < 136
            · have hd : decide ((n : Int) < 136) = true := by simp; omega
              have hd2 : (n : Int) < 136 := by omega
              have HR := hQz (show n / 8 < 25 ∧ n % 8 < 8 ∧ n < 1000000000 ∧ q + n < 1000000000 ∧ q + n < N ∧ cur2[0 + (q + n)]? = some (.int .u8 ((F n : Nat) : Int)) ∧ n < 136 from ⟨by omega, by omega, by omega, by have := HQ.out; have := HNB2.out; have := HJB.out; omega, by have := HQ.out; have := HNB2.out; have := HJB.out; omega, HFC.out n hlt, hlt⟩)
              clear hn hlt
              go_upto_region 12 with (fail)
              try simp only [Act.put, ppA, ppB, ppC]
              refine qh6 (C := fun w' => St [] w w' _) 20 (by kernel_rfl) (by kernel_rfl) hS.drew ?_
              simp only [List.take_succ_cons, List.take_zero, List.drop_succ_cons, List.drop_zero]
              refine qb8 rfl _ rfl rfl ?_; try simp only [Act.put, ppA, ppB, ppC]
              refine k_in (v := .int .i64 ((n / 8 : Nat) : Int)) rfl (fun w' _ => x_quo8 HR.out.2.2.1 rfl rfl rfl) ?_; try simp only [Act.put, ppA, ppB, ppC]
              refine qb8 rfl _ rfl rfl ?_; try simp only [Act.put, ppA, ppB, ppC]
              refine k_in (v := .int .i64 ((n / 8 : Nat) : Int)) rfl (fun w' _ => x_quo8 HR.out.2.2.1 rfl rfl rfl) ?_; try simp only [Act.put, ppA, ppB, ppC]
              refine qh9 (n / 8) rfl 73 _ _ rfl rfl rfl qi2 qa1 HR.out.1 ?_; try simp only [Act.put, ppA, ppB, ppC]
              refine qd4 (j := n / 8) rfl 72 _ rfl rfl .head (qa8 HR.out.1 HZ.out) qb1 ?_; try simp only [Act.put, ppA, ppB, ppC]
              refine qb0 rfl _ rfl rfl ?_; try simp only [Act.put, ppA, ppB, ppC]
              refine qb8 rfl _ rfl rfl ?_; try simp only [Act.put, ppA, ppB, ppC]
              refine qb8 rfl _ rfl rfl ?_; try simp only [Act.put, ppA, ppB, ppC]
              refine k_in (v := .int .i64 ((q + n : Nat) : Int)) rfl (fun w' _ => x_addN HR.out.2.2.2.1 rfl rfl rfl) ?_; try simp only [Act.put, ppA, ppB, ppC]
              refine k_idxSl (b := g) (off := 0) (j := q + n) rfl 23 _ _ rfl rfl rfl qb5 qb6 HR.out.2.2.2.2.1 ?_; try simp only [Act.put, ppA, ppB, ppC]
              refine qd4 (b := g) (j := 0 + (q + n)) rfl 5 _ rfl rfl (.tail .head) HR.out.2.2.2.2.2.1 qg6 ?_; try simp only [Act.put, ppA, ppB, ppC]
              refine k_in (v := .int .u64 ((F n : Nat) : Int)) rfl (fun w' _ => x_conv8 (HF.out n) rfl rfl) ?_; try simp only [Act.put, ppA, ppB, ppC]
              refine qb8 rfl _ rfl rfl ?_; try simp only [Act.put, ppA, ppB, ppC]
              refine k_in (v := .int .i64 ((n % 8 : Nat) : Int)) rfl (fun w' _ => x_rem8 HR.out.2.2.1 rfl rfl rfl) ?_; try simp only [Act.put, ppA, ppB, ppC]
              refine k_in (v := .int .i64 ((8 * (n % 8) : Nat) : Int)) rfl (fun w' _ => x_mul8 HR.out.2.1 rfl rfl rfl) ?_; try simp only [Act.put, ppA, ppB, ppC]
              refine k_in (v := .int .u64 ((8 * (n % 8) : Nat) : Int)) rfl (fun w' _ => x_convI (by have := HR.out.2.1; omega) rfl rfl) ?_; try simp only [Act.put, ppA, ppB, ppC]
              refine k_in (v := .int .u64 ((F n * 2 ^ (8 * (n % 8)) : Nat) : Int)) rfl (fun w' _ => x_shlB (HF.out n) HR.out.2.1 rfl rfl rfl) ?_; try simp only [Act.put, ppA, ppB, ppC]
              refine qi9 (s := xr X0 F n (n / 8) ^^^ F n * 2 ^ (8 * (n % 8))) rfl _ _ _ _ rfl rfl rfl rfl (xr_lan HX0.out HF.out n _) (shifted_lt (HF.out n) HR.out.2.1) ?_; try simp only [Act.put, ppA, ppB, ppC]
              refine qh9 (n / 8) rfl 73 _ _ rfl rfl rfl qi2 qa1 HR.out.1 ?_; try simp only [Act.put, ppA, ppB, ppC]
              refine qc8 ?_
              clear hS
              intro w8 hS
              refine qa7 (j := n / 8) hS rfl 72 _ _ rfl rfl rfl qa1 (by repeat (first | exact Upd.head | apply Upd.tail)) (by rw [qb9]; have := HZ.out; have := HR.out.1; omega) ?_
              clear hS
              intro w9 hS
              try simp only [Act.put, ppA, ppB, ppC]
              rw [lay_set HR.out.1 HZ.out] at hS
              rw [xr_step] at hS
              go_wp2
              go_roundw
              case rel => exact ⟨n + 1, by have := HR.out.2.2.2.2.2.2; omega, by go_num, hS⟩
              case measure => have := HR.out.2.2.2.2.2.2; simp [intOf]; omega
            · obtain rfl : n = 136 := by omega
              clear hlt hn
              rw [show ((136 : Nat) : Int) = 136 from rfl]
              go_upto_region 15 with (first
                | (refine st_new1 hS rfl 5 rfl u8_zero ?_; clear hS; intro w9 bl hS)
                | (refine qa7 (b := bl) (j := 0) (c := #[.int .u8 0]) hS rfl 5 _ _ rfl rfl rfl qb6 (by repeat (first | exact Upd.head | apply Upd.tail)) (show 0 < 1 by decide) ?_; clear hS; intro w10 hS; rw [one_set] at hS))
              try simp only [Act.put, ppA, ppB, ppC]
              obtain ⟨X, hX⟩ : ∃ X, X = xr X0 F 136 := ⟨_, rfl⟩
              have HX := hQz (show Lan X by rw [hX]; exact xr_lan HX0.out HF.out 136)
              rw [← hX] at hS HST
              clear hX
              go_loopw [8] (fun kk wr => ∃ k : Nat, k ≤ 24 ∧ kk = .int .i64 (k : Int) ∧ St [] w wr [(bl, 5, #[.int .u8 ((lrd k : Nat) : Int)]), (ba, 73, lay z (perN X k)), (g, 5, cur2), (b2, 32, wf fun _ => 0)]) (fun kk _ => 24 - (intOf kk).toNat)
              case atStart => exact ⟨0, by omega, rfl, hS⟩
              case round =>
                clear hS
                obtain ⟨k, hk, rfl, hS⟩ := hrel
                by_cases hlt : k < 24
                · have hd : decide ((k : Int) < 24) = true := by simp; omega
                  have hd2 : (k : Int) < 24 := by omega
                  have hne : ba ≠ bl := (St.apart2 hS).symm
                  have HK := hQz (show k < 24 from hlt)
                  have hcall := rround_any ba bl 73 z (perN X k) (lrd k) wr (hS.get (.tail .head)) (hS.get .head) hne HZ.out (per_lan HX.out k) (lrd_lt k)
                  rw [iota_is k hlt] at hcall
                  have HCall := hQz hcall
                  have HS := hQz hS
                  have HNE := hQz hne
                  clear hcall hS hlt hk hne
                  go_wp2_with (go_at_call 32; go_must (refine HCall.out.mono ?_; rintro e w11 ⟨rfl, hT11, hB11, hL11⟩))
                  have hS : St [] w w11 [(bl, 5, #[.int .u8 ((lrd (k + 1) : Nat) : Int)]), (ba, 73, lay z (perN X (k + 1))), (g, 5, cur2), (b2, 32, wf fun _ => 0)] := HS.out.on2 (.tail .head) .head hT11 hB11 hL11 HNE.out
                  clear hT11 hB11 hL11 HS HCall
                  go_roundw
                  case rel => exact ⟨k + 1, by have := HK.out; omega, by go_num, hS⟩
                  case measure => have := HK.out; simp [intOf]; omega
                · obtain rfl : k = 24 := by omega
                  clear hlt hk
                  have hS2 : St [] w wr [(ba, 73, lay z (stN M (j + 1))), (g, 5, cur2), (b2, 32, wf fun _ => 0)] := by rw [HST.out]; exact hS.drop
                  have e9 : IntKind.i64.wrap ((q : Int) + 136) = ((q + 136 : Nat) : Int) := by rw [IntWalk.i64_in _ (by have := HQ.out; have := HNB2.out; have := HJB.out; omega)]; omega
                  obtain ⟨q2, hq2⟩ : ∃ q2, q2 = q + 136 := ⟨_, rfl⟩
                  rw [← hq2] at e9
                  have HQ2 := hQz hq2
                  clear hS hq2
                  rw [show ((24 : Nat) : Int) = 24 from rfl]
                  go_wp2
                  go_roundw
                  case rel => exact ⟨j + 1, q2, HJB.out, hQz (by have := HQ.out; have := HQ2.out; omega), rfl, hS2⟩
                  case measure => have := HQ2.out; have := HQ.out; have := HJB.out; simp [intOf]; omega
        · obtain rfl : j = B := by omega
          have hqN : q = N := by have := HQ.out; have := HNB2.out; omega
          obtain ⟨P, hP⟩ : ∃ P, P = stN M j := ⟨_, rfl⟩
          have HP2 := hQz (show Lan P by rw [hP]; exact stN_lan HCur.out.2.2 j)
          rw [← hP] at hS HH
          subst hqN
          clear hP hjb hj HQ HNB2 HCur
          go_upto_region 20 with (first | (refine qe3 hS rfl 32 rfl qd5 ?_; clear hS; intro w7 b9 hS))
          go_loopw [10] (fun i wr => ∃ n : Nat, n ≤ 32 ∧ i = .int .i64 (n : Int) ∧ St [] w wr [(b9, 32, wf fun i => if i < n then outN P i else 0), (ba, 73, lay z P), (g, 5, cur2), (b2, 32, wf fun _ => 0)]) (fun i _ => 32 - (intOf i).toNat)
          case atStart =>
            refine ⟨0, by omega, rfl, ?_⟩
            rw [show (wf fun i => if i < 0 then outN P i else 0) = wf fun _ => 0 from wf_congr fun i _ => if_neg (by omega)]
            exact hS
          case round =>
            clear hS
            obtain ⟨n, hn, rfl, hS⟩ := hrel
            by_cases hlt : n < 32
            · skip
              have hd : decide ((n : Int) < 32) = true := by simp; omega
              have hd2 : (n : Int) < 32 := by omega
              have HR := hQz (show n / 8 < 25 ∧ n % 8 < 8 ∧ n < 1000000000 ∧ n < 32 from ⟨by omega, by omega, by omega, hlt⟩)
              clear hn hlt
              go_upto_region 22 with (fail)
              try simp only [Act.put, ppA, ppB, ppC]
              refine l_plain ?_
              refine qj0 rfl (fun w => qb2 (.inl rfl) rfl) ?_; try simp only [Act.put, ppA, ppB, ppC]
              refine qj0 rfl (fun w => qb2 (.inl rfl) rfl) ?_; try simp only [Act.put, ppA, ppB, ppC]
              refine qj0 (v := .int .i64 ((n / 8 : Nat) : Int)) rfl (fun w => x_quo8 HR.out.2.2.1 rfl rfl rfl) ?_; try simp only [Act.put, ppA, ppB, ppC]
              refine l_idx (n / 8) rfl 73 _ _ rfl rfl rfl qi2 qa1 HR.out.1 ?_; try simp only [Act.put, ppA, ppB, ppC]
              refine l_cell (j := n / 8) hS rfl 72 _ rfl rfl (.tail .head) (qa8 HR.out.1 HZ.out) qb1 ?_; try simp only [Act.put, ppA, ppB, ppC]
              refine qj0 rfl (fun w => qb2 (.inl rfl) rfl) ?_; try simp only [Act.put, ppA, ppB, ppC]
              refine qj0 (v := .int .i64 ((n % 8 : Nat) : Int)) rfl (fun w => x_rem8 HR.out.2.2.1 rfl rfl rfl) ?_; try simp only [Act.put, ppA, ppB, ppC]
              refine qj0 (v := .int .i64 ((8 * (n % 8) : Nat) : Int)) rfl (fun w => x_mul8 HR.out.2.1 rfl rfl rfl) ?_; try simp only [Act.put, ppA, ppB, ppC]
              refine qj0 (v := .int .u64 ((8 * (n % 8) : Nat) : Int)) rfl (fun w => x_convI (by have := HR.out.2.1; omega) rfl rfl) ?_; try simp only [Act.put, ppA, ppB, ppC]
              refine qj0 (v := .int .u64 ((P (n / 8) / 2 ^ (8 * (n % 8)) : Nat) : Int)) rfl (fun w => x_shrB HR.out.2.1 rfl rfl rfl) ?_; try simp only [Act.put, ppA, ppB, ppC]
              refine qj0 (v := .int .u64 ((P (n / 8) / 2 ^ (8 * (n % 8)) % 256 : Nat) : Int)) rfl (fun w => x_and255 (Nat.lt_of_le_of_lt (Nat.div_le_self _ _) (HP2.out _)) rfl rfl rfl) ?_; try simp only [Act.put, ppA, ppB, ppC]
              refine qj0 (v := .int .u8 ((outN P n : Nat) : Int)) rfl (fun w => x_convB (qj2 P n) rfl rfl) ?_; try simp only [Act.put, ppA, ppB, ppC]
              refine l_idx n rfl 32 _ _ rfl rfl rfl qc7 qb6 HR.out.2.2.2 ?_; try simp only [Act.put, ppA, ppB, ppC]
              refine l_store (j := n) hS rfl 5 _ _ rfl rfl rfl qb6 (wf_next (g := outN P) (v := outN P n) HR.out.2.2.2 rfl) (by repeat (first | exact Upd.head | apply Upd.tail)) (by rw [qa5]; exact HR.out.2.2.2) ?_
              clear hS
              intro w11 hS
              try simp only [Act.put, ppA, ppB, ppC]
              refine l_end ?_
              go_wp2
              go_roundw
              case rel => exact ⟨n + 1, by have := HR.out.2.2.2; omega, by go_num, hS⟩
              case measure => have := HR.out.2.2.2; simp [intOf]; omega
            · obtain rfl : n = 32 := by omega
              rw [show (wf fun i => if i < 32 then outN P i else 0) = wf (hashN l) from wf_congr fun i hi => by rw [if_pos hi, HH.out]] at hS
              clear hlt hn
              rw [show ((32 : Nat) : Int) = 32 from rfl]
              go_wp2_with (first | (refine st_load (b := b9) hS rfl 32 _ rfl rfl .head qc7 rfl qb4 (qa5 _) ?_) | (refine qe4 (b := b2) (c' := wf (hashN l)) hS rfl 32 _ _ rfl rfl rfl (by repeat (first | exact Upd.head | apply Upd.tail)) qb4 (qa5 _) (qa5 _) (qj1 _) ?_; clear hS; intro w12 hS))
              exact qf5 hS 2 32 rfl rfl rfl (.tail (.tail (.tail .head))) qc7 rfl qb4 (qa5 _) (fun hb => ⟨rfl, hb⟩)
    · obtain ⟨p, c, rfl⟩ := own_slice hown
      generalize hNe : (part1 l k).length = N at *
      have hl6 := HL.out
      have r1 : (N : Int).tmod 136 = (N : Int) % 136 := Int.tmod_eq_emod_of_nonneg (by omega)
      have r2 : ((N : Int) % 136 == 0) = false := by rw [beq_eq_false_iff_ne]; omega
      have r3 : ¬ (N : Int) % 136 = 0 := by omega
      go_wp2_with (first
        | (at_builtin; (refine qj3 (w0 := w1) (w := wr.alloc _) (v := .slice p N c) (u := .slice (some ⟨wr.heap.size, 0, none⟩) 1 1) (l := part1 l k) (m := [0]) (ty := 5) rfl _ _ rfl rfl rfl (by rw [hNe]; exact hown.alloc _) (hT.alloc _) (RdB.lit wr _ [0] (by simp) #[.int .u8 0] rfl) (by rw [hNe]; simp; omega) ?_; intro v4 w4 hown4 hT4)))
      rw [part1_snoc] at hown4
      go_roundw
      case rel => exact ⟨k + 1, by omega, hown4, hT4⟩
      case measure =>
        obtain ⟨p4, c4, rfl⟩ := own_slice hown4
        have := part1_len l (k + 1)
        simp [lenOf]; omega
end
end Go.Proofs.YtanmpcgackfpaaaGreat
