/- The hash of parts. -/
import Derived.Test.YtopfmaoeebgjmaaGreatDoorM01
import Derived.Test.YtopfmaoeebgjmaaGreatDoorM02
import Derived.Test.YtopfmaoeebgjmaaGreatDoorM09
import Derived.Test.YtopfmaoeebgjmaaGreatDoorM10
set_option linter.unusedVariables false
set_option linter.unusedSimpArgs false
namespace Go.Proofs.YtopfmaoeebgjmaaGreatDoor
section
open Go.RowKit
theorem sponge_lit : spn (fun _ => 0) 0 = #[.int .u64 0, .int .u64 0, .int .u64 0, .int .u64 0, .int .u64 0, .int .u64 0, .int .u64 0, .int .u64 0, .int .u64 0, .int .u64 0, .int .u64 0, .int .u64 0, .int .u64 0, .int .u64 0, .int .u64 0, .int .u64 0, .int .u64 0, .int .u64 0, .int .u64 0, .int .u64 0, .int .u64 0, .int .u64 0, .int .u64 0, .int .u64 0, .int .u64 0, .int .i64 0] := by kernel_rfl
theorem sponge_zero : (Tryz.prog.info? 173).bind (·.zero) = some (.agg (spn (fun _ => 0) 0)) := by rw [sponge_lit]; kernel_rfl
set_option maxHeartbeats 4000000 in
set_option maxRecDepth 100000 in
theorem absorb_none (b t d : Nat) (p : Option Addr) (A : Nat → Nat) (w : World) (hB : Blk w b 173 (spn A t)) :
    Calls Tryz.prog 90 #[.pointer (some ⟨b, 0, none⟩), .slice p 0 d] w fun e w' => e = .returned (.tuple #[]) ∧ Tch [b] w w' ∧ Blk w' b 173 (spn A t) := by
  have HB := hQz hB
  clear hB
  go_enter Tryz.func90, Tryz.ntmps90
  go_wp2
  go_loopw [1] (fun pv wr => pv = .slice p 0 d ∧ wr = w) (fun pv _ => slen pv)
  case atStart => exact ⟨rfl, rfl⟩
  case round =>
    obtain ⟨rfl, rfl⟩ := hrel
    go_wp2
    exact bodyPost_end (results_none rfl _ _ _) rfl ⟨rfl, Tch.refl _ _, HB.out⟩
def PartAt (w : World) (v : Value) (l : List Nat) : Prop := ∃ p c, v = .slice p l.length c ∧ l.length ≤ c ∧ l.length < 1000000 ∧ (∀ x ∈ l, x < 256) ∧ (l ≠ [] → ∃ pb o, p = some ⟨pb, o, none⟩ ∧ Bs w pb o l.length (fun i => l.getD i 0))
theorem PartAt.tch {bs : List Nat} {w w' : World} {v : Value} {l : List Nat} (h : PartAt w v l) (hT : Tch bs w w') (hb : ∀ x ∈ bs, w.heap.size ≤ x) : PartAt w' v l := by
  obtain ⟨p, c, h1, h2, h3, h4, h5⟩ := h
  refine ⟨p, c, h1, h2, h3, h4, fun hl => ?_⟩
  obtain ⟨pb, o, h6, h7⟩ := h5 hl
  exact ⟨pb, o, h6, h7.tch hT fun hm => by have := hb _ hm; have := h7.1; omega⟩
theorem bl_list (l : List Nat) : bl (fun i => l.getD i 0) l.length = l := by
  apply List.ext_getElem?
  intro i
  unfold bl
  rw [List.getElem?_map]
  by_cases h : i < l.length
  · rw [List.getElem?_range h]; simp [h]
  · rw [List.getElem?_eq_none (by simpa using h), List.getElem?_eq_none (by simpa using h)]; rfl
theorem absorb_part (b t : Nat) (v : Value) (l : List Nat) (A : Nat → Nat) (w w0 : World) (hok : SpOk ⟨A, t⟩) (hB : Blk w b 173 (spn A t)) (hP : PartAt w0 v l) (hT : Tch [] w0 w) (hb : w0.heap.size ≤ b) :
    Calls Tryz.prog 90 #[.pointer (some ⟨b, 0, none⟩), v] w fun e w' => e = .returned (.tuple #[]) ∧ Tch [b] w w' ∧ Blk w' b 173 (spn (absL ⟨A, t⟩ l).A (absL ⟨A, t⟩ l).t) := by
  obtain ⟨p, c, rfl, h2, h3, h4, h5⟩ := hP
  by_cases hl : l = []
  · subst hl; exact absorb_none b t c p A w hB
  · obtain ⟨pb, o, rfl, h7⟩ := h5 hl
    have hne : pb ≠ b := by have := h7.1; omega
    have := absorb_any b pb o l.length c t (fun i => l.getD i 0) A w hok hB (h7.tch hT (by simp)) hne h3 h2
    rwa [bl_list] at this
def cat (LL : Nat → List Nat) : Nat → List Nat
  | 0 => []
  | n + 1 => cat LL n ++ LL n
theorem cat_lt {LL : Nat → List Nat} : ∀ {n : Nat}, (∀ i, i < n → ∀ x ∈ LL i, x < 256) → ∀ x ∈ cat LL n, x < 256
  | 0, _, x, hx => by simp [cat] at hx
  | n + 1, h, x, hx => by
    rcases List.mem_append.1 hx with h1 | h1
    · exact cat_lt (fun i hi => h i (by omega)) x h1
    · exact h n (by omega) x h1
set_option maxHeartbeats 4000000 in
set_option maxRecDepth 100000 in
theorem sum_any (pl po n cc : Nat) (LL : Nat → List Nat) (w : World) (hn : n < 1000000) (hP : 0 < n → pl < w.heap.size) (hL : ∀ i, i < n → ∃ v, w.cell? ⟨pl, po + i, none⟩ = some v ∧ PartAt w v (LL i)) (pp : Option Addr) (hpp : 0 < n → pp = some ⟨pl, po, none⟩) :
    Calls Tryz.prog 67 #[.slice pp n cc] w fun e w' => e = .returned (.agg (wf (hashN (cat LL n)))) ∧ Tch [] w w' := by
  have HL := hQz (And.intro hL (And.intro hP (And.intro hpp hn)))
  have hS := St.start w
  clear hL hP hpp
  go_enter Tryz.func67, Tryz.ntmps67
  go_wp2_with (first | (have _t := b2; clear _t; refine st_new hS rfl 173 rfl sponge_zero ?_; clear hS; intro w1 b3 hS) | (refine st_new hS rfl 25 rfl word_zero ?_; clear hS; intro w1 b2 hS))
  go_loopw [8] (fun i wr => ∃ k : Nat, k ≤ n ∧ i = .int .i64 (k : Int) ∧ St [] w wr [(b3, 173, spn (absL sp0 (cat LL k)).A (absL sp0 (cat LL k)).t), (b2, 25, wf fun _ => 0)]) (fun i _ => n - (intOf i).toNat)
  case atStart => exact ⟨0, by omega, rfl, hS⟩
  case round =>
    clear hS
    obtain ⟨k, hk, rfl, hS⟩ := hrel
    have ok : SpOk (absL sp0 (cat LL k)) := absL_ok sp0_ok (cat_lt fun i hi x hx => by
      obtain ⟨v, _, p, c, _, _, _, h4, _⟩ := HL.out.1 i (by omega)
      exact h4 x hx)
    have hstep : absL sp0 (cat LL (k + 1)) = absL (absL sp0 (cat LL k)) (LL k) := absL_append _ _ _
    obtain ⟨⟨A1, t1⟩, hs⟩ : ∃ s : Sp, s = absL sp0 (cat LL k) := ⟨_, rfl⟩
    rw [← hs] at hS ok hstep
    replace hS : St [] w wr [(b3, 173, spn A1 t1), (b2, 25, wf fun _ => 0)] := hS
    have hb3 : w.heap.size ≤ b3 := by rcases hS.own .head with h | h; exact h; simp at h
    by_cases hlt : k < n
    · obtain rfl := HL.out.2.2.1 (by omega)
      obtain ⟨v, hc, hv⟩ := HL.out.1 k hlt
      have hcr : wr.cell? ⟨pl, po + k, none⟩ = some v := (hS.frame.cell (p := ⟨pl, po + k, none⟩) (HL.out.2.1 (by omega)) (by simp)).trans hc
      have hsl : ∃ p l c, v = .slice p l c := by obtain ⟨p, c, h, _⟩ := hv; exact ⟨_, _, _, h⟩
      obtain ⟨p, l, c, rfl⟩ := hsl
      have hR := fun (w' : World) (h : Blk w' b3 173 (spn A1 t1)) (hT : Tch [] w w') => absorb_part b3 t1 (.slice p l c) (LL k) A1 w' w ok h hv hT hb3
      have HR := hQz (And.intro hR hstep)
      have hd : decide (k < n) = true := by simpa using hlt
      clear hR hstep hs ok hv hc
      go_wp2_with (first | (go_at_call 90; refine (HR.out.1 _ (hS.get .head) hS.frame).mono ?_; rintro e w1 ⟨rfl, hT, hB⟩; replace hS := hS.on1 .head hT hB; clear hT hB))
      rw [← HR.out.2] at hS
      go_roundw
      case rel => exact ⟨k + 1, by omega, by go_num, hS⟩
      case measure => simp [intOf]; omega
    · obtain rfl : k = n := by omega
      have hd : decide (k < k) = false := by simp
      have hR := fun (w' : World) (h : Blk w' b3 173 (spn A1 t1)) => finish_any b3 t1 A1 w' ok.1 ok.2 h
      have hfin : finN ⟨A1, t1⟩ = finN (absL sp0 (cat LL k)) := by rw [hs]
      have HR := hQz (And.intro hR hfin)
      clear hR hfin hs hstep ok
      go_wp2_with (first | (go_at_call 91; refine (HR.out.1 _ (hS.get .head)).mono ?_; rintro e w1 ⟨rfl, hT⟩; replace hS := hS.lose hT; clear hT) | (refine st_store hS rfl 25 _ _ rfl rfl rfl (by repeat (first | exact Upd.head | apply Upd.tail)) word_size (wf_size _) (wf_size _) (wf_one _) ?_; clear hS; intro w1 hS))
      rw [HR.out.2] at hS
      exact st_post hS 2 25 rfl rfl rfl (by repeat (first | exact At.head | apply At.tail)) word_type rfl word_size (wf_size _) (fun hb => ⟨rfl, hb⟩)
end
section
def xr (A : Nat → Nat) (f : Nat → Nat) : Nat → (Nat → Nat)
  | 0 => A
  | i + 1 => xorAt (xr A f i) i (f i)
theorem xr_congr {A f g : Nat → Nat} : ∀ {n : Nat}, (∀ i, i < n → f i = g i) → xr A f n = xr A g n
  | 0, _ => rfl
  | n + 1, h => by
    show xorAt (xr A f n) n (f n) = xorAt (xr A g n) n (g n)
    rw [xr_congr (n := n) (fun i hi => h i (by omega)), h n (by omega)]
theorem xr_lan {A f : Nat → Nat} (hA : Lan A) (hf : ∀ i, f i < 256) : ∀ n, Lan (xr A f n)
  | 0 => hA
  | n + 1 => xorAt_lan (xr_lan hA hf n) (hf n)
theorem absL_in (A : Nat → Nat) (l : List Nat) (hl : l.length = 136) : ∀ i, i ≤ 135 → absL ⟨A, 0⟩ (l.take i) = ⟨xr A (fun i => l.getD i 0) i, i⟩
  | 0, _ => by simp [absL_nil, xr]
  | i + 1, hi => by
    have hlt : i < l.length := by omega
    rw [List.take_succ_eq_append_getElem hlt, absL_append, absL_in A l hl i (by omega), absL_cons, absL_nil, abs1_in (by show i + 1 < 136; omega)]
    show Sp.mk (xorAt _ i l[i]) (i + 1) = ⟨xorAt _ i (l.getD i 0), i + 1⟩
    rw [List.getD_eq_getElem?_getD, List.getElem?_eq_getElem hlt]; rfl
theorem absL_blk (A : Nat → Nat) (l : List Nat) (hl : l.length = 136) : absL ⟨A, 0⟩ l = ⟨permN (xr A (fun i => l.getD i 0) 136), 0⟩ := by
  have h1 : l = l.take 135 ++ [l.getD 135 0] := by
    have := List.take_succ_eq_append_getElem (l := l) (i := 135) (by omega)
    rw [show 135 + 1 = l.length by omega, List.take_length] at this
    rw [List.getD_eq_getElem?_getD, List.getElem?_eq_getElem (by omega)]
    exact this
  conv => lhs; rw [h1]
  rw [absL_append, absL_in A l hl 135 (by omega), absL_cons, absL_nil, abs1_full _ rfl]
  rfl
def stN (M : List Nat) : Nat → (Nat → Nat)
  | 0 => fun _ => 0
  | j + 1 => permN (xr (stN M j) (fun i => M.getD (136 * j + i) 0) 136)
theorem getD_lt {M : List Nat} (h : ∀ x ∈ M, x < 256) (i : Nat) : M.getD i 0 < 256 := by
  rw [List.getD_eq_getElem?_getD]
  cases hq : M[i]? with
  | none => exact (by decide : (0 : Nat) < 256)
  | some y => exact h y (List.mem_of_getElem? hq)
theorem stN_lan {M : List Nat} (h : ∀ x ∈ M, x < 256) : ∀ j, Lan (stN M j)
  | 0 => fun _ => Nat.zero_lt_succ _
  | j + 1 => perm_lan (xr_lan (stN_lan h j) (fun i => getD_lt h _) 136)
theorem absL_st (M : List Nat) : ∀ j, 136 * j ≤ M.length → absL sp0 (M.take (136 * j)) = ⟨stN M j, 0⟩
  | 0, _ => by simp [absL_nil, stN, sp0]
  | j + 1, h => by
    have e : M.take (136 * (j + 1)) = M.take (136 * j) ++ (M.drop (136 * j)).take 136 := by
      rw [show 136 * (j + 1) = 136 * j + 136 by omega, List.take_add]
    have hl : ((M.drop (136 * j)).take 136).length = 136 := by rw [List.length_take, List.length_drop]; omega
    rw [e, absL_append, absL_st M j (by omega), absL_blk _ _ hl]
    show Sp.mk _ 0 = Sp.mk (permN (xr (stN M j) (fun i => M.getD (136 * j + i) 0) 136)) 0
    rw [xr_congr (g := fun i => M.getD (136 * j + i) 0)]
    intro i hi
    simp only [List.getD_eq_getElem?_getD, List.getElem?_take, hi, if_true, List.getElem?_drop]
theorem padL_len {t : Nat} (h : t < 136) : (padL t).length = 136 - t := by
  unfold padL
  split
  · rename_i e; subst e; rfl
  · simp; omega
def padded (l : List Nat) : List Nat := l ++ padL (l.length % 136)
theorem padded_len (l : List Nat) : (padded l).length = 136 * (l.length / 136 + 1) := by
  unfold padded
  rw [List.length_append, padL_len (Nat.mod_lt _ (by decide))]
  have := Nat.mod_lt l.length (show 0 < 136 by decide)
  omega
theorem padded_lt {l : List Nat} (h : ∀ x ∈ l, x < 256) : ∀ x ∈ padded l, x < 256 := by
  intro x hx
  rcases List.mem_append.1 hx with hx | hx
  · exact h x hx
  · unfold padL at hx
    split at hx
    · simp at hx; omega
    · simp at hx
      rcases hx with hx | ⟨_, hx⟩ | hx <;> omega
theorem hash_st (l : List Nat) : hashN l = outN (stN (padded l) (l.length / 136 + 1)) := by
  rw [hash_padded]
  have h := absL_st (padded l) (l.length / 136 + 1) (Nat.le_of_eq (padded_len l).symm)
  rw [← padded_len, List.take_length] at h
  show outN (absL sp0 (padded l)).A = _
  rw [h]
def part1 (l : List Nat) (k : Nat) : List Nat := l ++ 1 :: List.replicate k 0
theorem part1_len (l : List Nat) (k : Nat) : (part1 l k).length = l.length + 1 + k := by unfold part1; simp; omega
theorem part1_lt {l : List Nat} (h : ∀ x ∈ l, x < 256) (k : Nat) : ∀ x ∈ part1 l k, x < 256 := by
  intro x hx
  unfold part1 at hx
  simp at hx
  rcases hx with hx | hx | ⟨_, hx⟩
  · exact h x hx
  · omega
  · omega
theorem part1_snoc (l : List Nat) (k : Nat) : part1 l k ++ [0] = part1 l (k + 1) := by
  unfold part1
  rw [List.append_assoc, List.cons_append, ← List.replicate_succ']
theorem part1_zero (l : List Nat) : l ++ [1] = part1 l 0 := rfl
theorem part1_set (l : List Nat) (k : Nat) (hk : (l.length + 1 + k) % 136 = 0) (hk2 : k < 136) : (part1 l k).set (l.length + k) ((part1 l k).getD (l.length + k) 0 ||| 128) = padded l := by
  unfold part1 padded
  have ht : l.length % 136 = 135 - k := by omega
  rw [ht, List.set_append_right _ _ (by omega), Nat.add_sub_cancel_left, List.getD_eq_getElem?_getD, List.getElem?_append_right (by omega), Nat.add_sub_cancel_left]
  congr 1
  unfold padL
  cases k with
  | zero => rfl
  | succ k =>
    rw [if_neg (by omega), List.getElem?_cons_succ, List.getElem?_replicate, if_pos (by omega), List.set_cons_succ, show 134 - (135 - (k + 1)) = k by omega]
    congr 1
    rw [List.replicate_succ', List.set_append_right _ _ (by simp), List.length_replicate, Nat.sub_self]
    rfl
end
section
open Go.RowKit
section
variable {a : Act} {w : World} {o : Oper} {x y : Operand} {ty yt : TypeId}
theorem x_valK {v : Value} (ho : o.op = .move x ∨ o.op = .assign x) (hx : a.eval x = v) : (execOp a.eval o).run Tryz.prog w = .ok (.value v) w := by
  unfold execOp; rcases ho with ho | ho <;> simp only [ho, hx] <;> rfl
theorem x_quo8 {i : Nat} (hi : i < 1000000000) (ho : o.op = .binOp .quo 3 x y yt) (hx : a.eval x = .int .i64 (i : Int)) (hy : a.eval y = .int .i64 8) : (execOp a.eval o).run Tryz.prog w = .ok (.value (.int .i64 ((i / 8 : Nat) : Int))) w := by
  have h : IntKind.i64.wrap ((i : Int).tdiv 8) = ((i / 8 : Nat) : Int) := by rw [Int.tdiv_eq_ediv_of_nonneg (by omega), IntWalk.i64_in _ (by omega)]; omega
  unfold execOp; simp only [ho, hx, hy]; show Sem.run _ _ w = _; simp [eqGuard, binOp, Op.intArith, Op.intDiv, h]; exact IntWalk.i64_in _ (by omega)
theorem x_rem8 {i : Nat} (hi : i < 1000000000) (ho : o.op = .binOp .rem 3 x y yt) (hx : a.eval x = .int .i64 (i : Int)) (hy : a.eval y = .int .i64 8) : (execOp a.eval o).run Tryz.prog w = .ok (.value (.int .i64 ((i % 8 : Nat) : Int))) w := by
  have h : IntKind.i64.wrap ((i : Int).tmod 8) = ((i % 8 : Nat) : Int) := by rw [Int.tmod_eq_emod_of_nonneg (by omega), IntWalk.i64_in _ (by omega)]; omega
  unfold execOp; simp only [ho, hx, hy]; show Sem.run _ _ w = _; simp [eqGuard, binOp, Op.intArith, Op.intDiv, h]; exact Int.tmod_eq_emod_of_nonneg (by omega)
theorem x_mul8 {r : Nat} (hr : r < 8) (ho : o.op = .binOp .mul 3 x y yt) (hx : a.eval x = .int .i64 (r : Int)) (hy : a.eval y = .int .i64 8) : (execOp a.eval o).run Tryz.prog w = .ok (.value (.int .i64 ((8 * r : Nat) : Int))) w := by
  have h : IntKind.i64.wrap ((r : Int) * 8) = ((8 * r : Nat) : Int) := by rw [IntWalk.i64_in _ (by omega)]; omega
  unfold execOp; simp only [ho, hx, hy]; show Sem.run _ _ w = _; simp [eqGuard, binOp, Op.intArith, h]
theorem x_addN {m n : Nat} (hm : m + n < 1000000000) (ho : o.op = .binOp .add 3 x y yt) (hx : a.eval x = .int .i64 (m : Int)) (hy : a.eval y = .int .i64 (n : Int)) : (execOp a.eval o).run Tryz.prog w = .ok (.value (.int .i64 ((m + n : Nat) : Int))) w := by
  have h : IntKind.i64.wrap ((m : Int) + (n : Int)) = ((m + n : Nat) : Int) := by rw [IntWalk.i64_in _ (by omega)]; omega
  unfold execOp; simp only [ho, hx, hy]; show Sem.run _ _ w = _; simp [eqGuard, binOp, Op.intArith, h]
theorem x_convI {s : Nat} (hs : s < 1000000000) (ho : o.op = .convert 3 103 x) (hx : a.eval x = .int .i64 (s : Int)) : (execOp a.eval o).run Tryz.prog w = .ok (.value (.int .u64 (s : Int))) w := by
  have h : IntKind.u64.wrap (s : Int) = (s : Int) := by rw [IntKind.wrap_u64]; omega
  have h1 : Tryz.prog.underlying 3 = some (.int .i64) := by kernel_rfl
  have h2 : Tryz.prog.underlying 103 = some (.int .u64) := by kernel_rfl
  unfold execOp; simp only [ho, hx]; show Sem.run _ _ w = _; simp [convert, run_underlying h1, run_underlying h2, Conv.intToInt, h]
theorem x_conv8 {v : Nat} (hv : v < 256) (ho : o.op = .convert 5 113 x) (hx : a.eval x = .int .u8 (v : Int)) : (execOp a.eval o).run Tryz.prog w = .ok (.value (.int .u64 (v : Int))) w := by
  have h : IntKind.u64.wrap (v : Int) = (v : Int) := by rw [IntKind.wrap_u64]; omega
  have h1 : Tryz.prog.underlying 5 = some (.int .u8) := by kernel_rfl
  have h2 : Tryz.prog.underlying 113 = some (.int .u64) := by kernel_rfl
  unfold execOp; simp only [ho, hx]; show Sem.run _ _ w = _; simp [convert, run_underlying h1, run_underlying h2, Conv.intToInt, h]
theorem x_shlB {v r : Nat} (hv : v < 256) (hr : r < 8) (ho : o.op = .binOp .shl 113 x y 103) (hx : a.eval x = .int .u64 (v : Int)) (hy : a.eval y = .int .u64 ((8 * r : Nat) : Int)) : (execOp a.eval o).run Tryz.prog w = .ok (.value (.int .u64 ((v * 2 ^ (8 * r) : Nat) : Int))) w := by
  have hlt := shifted_lt hv hr
  have e : (v : Int) * 2 ^ (8 * r) = ((v * 2 ^ (8 * r) : Nat) : Int) := by rw [Int.natCast_mul, Int.natCast_pow]; rfl
  have h : IntKind.u64.wrap ((v : Int) * 2 ^ (8 * r)) = (v : Int) * 2 ^ (8 * r) := by
    rw [IntKind.wrap_u64, e]
    generalize v * 2 ^ (8 * r) = z at *
    omega
  have e2 : (8 * (r : Int)).toNat = 8 * r := by omega
  unfold execOp; simp only [ho, hx, hy]; show Sem.run _ _ w = _; simp [eqGuard, binOp, Op.shift, e2, h]
theorem x_shrB {n r : Nat} (hr : r < 8) (ho : o.op = .binOp .shr 113 x y 103) (hx : a.eval x = .int .u64 (n : Int)) (hy : a.eval y = .int .u64 ((8 * r : Nat) : Int)) : (execOp a.eval o).run Tryz.prog w = .ok (.value (.int .u64 ((n / 2 ^ (8 * r) : Nat) : Int))) w := by
  have e2 : (8 * (r : Int)).toNat = 8 * r := by omega
  unfold execOp; simp only [ho, hx, hy]; show Sem.run _ _ w = _; simp [eqGuard, binOp, Op.shift, e2]
theorem x_and255 {n : Nat} (hn : n < 18446744073709551616) (ho : o.op = .binOp .and 113 x y yt) (hx : a.eval x = .int .u64 (n : Int)) (hy : a.eval y = .int .u64 255) : (execOp a.eval o).run Tryz.prog w = .ok (.value (.int .u64 ((n % 256 : Nat) : Int))) w := by
  have h : bits BinOp.and IntKind.u64 (n : Int) 255 = ((n % 256 : Nat) : Int) := by
    rw [show (255 : Int) = ((255 : Nat) : Int) from rfl, u64_and_nat n 255 hn (by decide), show (255 : Nat) = 2 ^ 8 - 1 from rfl, Nat.and_two_pow_sub_one_eq_mod]
  unfold execOp; simp only [ho, hx, hy]; show Sem.run _ _ w = _; simp [eqGuard, binOp, Op.intBits]; exact h
theorem x_convB {n : Nat} (hn : n < 256) (ho : o.op = .convert 113 5 x) (hx : a.eval x = .int .u64 (n : Int)) : (execOp a.eval o).run Tryz.prog w = .ok (.value (.int .u8 (n : Int))) w := by
  have h : IntKind.u8.wrap (n : Int) = (n : Int) := by rw [IntKind.wrap_u8]; omega
  have h1 : Tryz.prog.underlying 5 = some (.int .u8) := by kernel_rfl
  have h2 : Tryz.prog.underlying 113 = some (.int .u64) := by kernel_rfl
  unfold execOp; simp only [ho, hx]; show Sem.run _ _ w = _; simp [convert, run_underlying h1, run_underlying h2, Conv.intToInt, h]
end
end
end Go.Proofs.YtopfmaoeebgjmaaGreatDoor
