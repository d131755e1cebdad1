/- AsmWrong's walk. -/
import Derived.Test.YtjbjjiibldlipaaJ11
namespace Go.Proofs.Ytjbjjiibldlipaa
open Go.RowKit

def wLines : List (List Nat) := [[], [65, 68, 68, 10], [97, 100, 100, 10], [65, 68, 68, 32, 10], [32, 65, 68, 68, 10], [65, 68, 68, 32, 48, 120, 48, 49, 10], [80, 85, 83, 72, 49, 10], [80, 85, 83, 72, 49, 32, 48, 120, 10], [80, 85, 83, 72, 49, 32, 48, 120, 48, 49, 48, 50, 10], [80, 85, 83, 72, 49, 32, 48, 120, 48, 71, 10], [80, 85, 83, 72, 49, 32, 48, 120, 65, 66, 10], [80, 85, 83, 72, 51, 51, 32, 48, 120, 48, 48, 10], [80, 85, 83, 72, 48, 10], [66, 89, 84, 69, 32, 48, 120, 48, 49, 10], [66, 89, 84, 69, 10], [66, 89, 84, 69, 32, 48, 120, 48, 49, 48, 50, 10], [73, 78, 86, 65, 76, 73, 68, 10], [65, 68, 68], [10], [80, 85, 83, 72, 50, 32, 32, 48, 120, 48, 49, 48, 50, 10], [68, 85, 80, 49, 55, 10], [76, 79, 71, 53, 10], [83, 87, 65, 80, 48, 10]]
def wWant : List Bool := [true, true, false, false, false, false, false, false, false, false, false, false, true, true, true, false, false, false, false, false, false, false, false]
def wLn (k : Nat) : List Nat := wLines.getD k []
def wOk (k : Nat) : Bool := wWant.getD k false
def pushL : List Nat := [80, 85, 83, 72, 49, 32, 48, 120, 53, 98]
def repL : Nat → List Nat
  | 0 => []
  | k + 1 => repL k ++ (pushL ++ [10])
theorem repL_len (k : Nat) : (repL k).length = 11 * k := by
  induction k with
  | zero => rfl
  | succ k ih => show (repL k ++ (pushL ++ [10])).length = _; rw [List.length_append, ih]; simp [pushL]; omega
theorem repL_lt (k : Nat) : ∀ x ∈ repL k, x < 256 := by
  induction k with
  | zero => intro x hx; cases hx
  | succ k ih =>
    intro x hx
    rcases List.mem_append.1 hx with h | h
    · exact ih x h
    · exact (by decide : ∀ x ∈ pushL ++ [10], x < 256) x h
theorem push_rd : rdLn pushL = some [96, 91] := by decide +kernel
def codeL : Nat → List Nat
  | 0 => []
  | k + 1 => codeL k ++ [96, 91]
theorem codeL_len (k : Nat) : (codeL k).length = 2 * k := by
  induction k with
  | zero => rfl
  | succ k ih => show (codeL k ++ [96, 91]).length = _; rw [List.length_append, ih]; simp; omega
theorem rdGo_rep (g : Nat) : ∀ m : List Nat, rdGo (repL g ++ m) [] [] 1 = rdGo m [] (codeL g) (1 + g) := by
  induction g with
  | zero => intro m; rfl
  | succ g ih =>
    intro m
    show rdGo ((repL g ++ (pushL ++ [10])) ++ m) [] [] 1 = _
    rw [List.append_assoc, ih, List.append_assoc]
    show rdGo (pushL ++ 10 :: m) [] (codeL g) (1 + g) = _
    rw [rdGo_line (by decide) push_rd]; rfl
theorem w_facts : ∀ w : Fin 23, w.val = 0 ∨ w.val = 17 ∨ (wLn w.val = (wLn w.val).dropLast ++ [10] ∧ 10 ∉ (wLn w.val).dropLast ∧ (rdLn (wLn w.val).dropLast).isSome = wOk w.val) := by decide +kernel
theorem w_short : ∀ w : Fin 23, (wLn w.val).length ≤ 20 ∧ ∀ x ∈ wLn w.val, x < 256 := by decide +kernel
theorem w_go (w : Nat) (hw : w < 23) (out : List Nat) (n : Nat) : if wOk w then ∃ b, rdGo (wLn w) [] out n = (out ++ b, 0, 0) else rdGo (wLn w) [] out n = ([], n, 2) := by
  rcases w_facts ⟨w, hw⟩ with h | h | ⟨h1, h2, h3⟩
  · simp only at h; subst h
    exact ⟨[], by show rdGo [] [] out n = _; rw [List.append_nil]; rfl⟩
  · simp only at h; subst h
    show rdGo [65, 68, 68] [] out n = _
    have := rdGo_more [65, 68, 68] [] [] out n (by decide)
    rw [List.append_nil] at this
    rw [this]; rfl
  · simp only at h1 h2 h3
    rw [h1]
    cases hr : rdLn (wLn w).dropLast with
    | none =>
      rw [hr] at h3
      rw [← h3]
      show rdGo ((wLn w).dropLast ++ 10 :: []) [] out n = _
      rw [rdGo_more _ _ _ _ _ h2, List.nil_append, rdGo_cons, if_pos rfl, hr]
    | some b =>
      rw [hr] at h3
      rw [← h3]
      refine ⟨b, ?_⟩
      show rdGo ((wLn w).dropLast ++ 10 :: []) [] out n = _
      rw [rdGo_line h2 hr]; rfl
theorem w_rd (w g : Nat) (hw : w < 23) (hg : g ≤ 50) : if wOk w then ∃ out, rdA (repL g ++ wLn w) = (out, 0, 0) ∧ 2 * g ≤ out.length else rdA (repL g ++ wLn w) = ([], g + 1, 2) := by
  have hl := (w_short ⟨w, hw⟩).1
  have h := w_go w hw (codeL g) (1 + g)
  have e : rdA (repL g ++ wLn w) = rdGo (wLn w) [] (codeL g) (1 + g) := by
    rw [rdA_go (by rw [List.length_append, repL_len]; simp only at hl; omega), rdGo_rep]
  rw [e]
  cases hok : wOk w with
  | true =>
    rw [hok] at h
    obtain ⟨b, hb⟩ := h
    exact ⟨_, hb, by rw [List.length_append, codeL_len]; omega⟩
  | false =>
    rw [hok] at h
    have h' : rdGo (wLn w) [] (codeL g) (1 + g) = ([], 1 + g, 2) := h
    show rdGo (wLn w) [] (codeL g) (1 + g) = ([], g + 1, 2)
    rw [h', Nat.add_comm]
def wlA : Array Value := (wLines.map fun l => Value.string (strB l)).toArray
def wwA : Array Value := (wWant.map fun b => Value.bool b).toArray
theorem wlA_at (k : Nat) (h : k < 23) : wlA[k]? = some (.string (strB (wLn k))) := by
  have hl : wLines.length = 23 := rfl
  unfold wlA wLn
  rw [List.getElem?_toArray, List.getElem?_map, List.getElem?_eq_getElem (by omega)]
  simp [List.getD_eq_getElem?_getD, List.getElem?_eq_getElem (show k < wLines.length by omega)]
theorem wwA_at (k : Nat) (h : k < 23) : wwA[k]? = some (.bool (wOk k)) := by
  have hl : wWant.length = 23 := rfl
  unfold wwA wOk
  rw [List.getElem?_toArray, List.getElem?_map, List.getElem?_eq_getElem (by omega)]
  simp [List.getD_eq_getElem?_getD, List.getElem?_eq_getElem (show k < wWant.length by omega)]
theorem strs_ty : Try.prog.underlying 33 = some (.slice 9) := by kernel_rfl
theorem bools_ty : Try.prog.underlying 34 = some (.slice 4) := by kernel_rfl
theorem str_size : (Try.prog.info? 9).map (·.size) = some 1 := by kernel_rfl
theorem bool_size : (Try.prog.info? 4).map (·.size) = some 1 := by kernel_rfl
section
variable {o : Oper} {a : Act} {ops : Array Oper} {rest : List Oper} {C : World → Prop} {Q : Act → Prop}
theorem k_mulI {m n s : Int} (hw : Region.wanted o (yielded ops a.tmps) = true) (ty yt : TypeId) (xo yo : Operand) (ho : o.op = .binOp .mul ty xo yo yt) (hx : a.eval xo = .int .i64 m) (hy : a.eval yo = .int .i64 n) (he : IntKind.i64.wrap (m * n) = s)
    (h : KQ ops C Q rest (a.put o.dst (.int .i64 s))) : KQ ops C Q (o :: rest) a :=
  k_pure hw (fun w => by unfold execOp; simp only [ho, hx, hy]; show Sem.run _ _ w = _; simp [eqGuard, binOp, Op.intArith, he]) h
theorem k_geqI {t : Bool} {m n : Int} (hw : Region.wanted o (yielded ops a.tmps) = true) (xo yo : Operand) (yt : TypeId) (ho : o.op = .binOp .geq 3 xo yo yt)
    (hxe : a.eval xo = .int .i64 m) (hye : a.eval yo = .int .i64 n) (hxy : decide (n ≤ m) = t) (h : KQ ops C Q rest (a.put o.dst (.bool t))) : KQ ops C Q (o :: rest) a :=
  k_pure hw (fun w => by unfold execOp; simp only [ho, hxe, hye]; show Sem.run _ _ w = _; simp [eqGuard, binOp, Op.intCmp, hxy]) h
theorem k_lenT {e : Nat} {ty : TypeId} {p : Option Addr} {n c : Nat} (hw : Region.wanted o (yielded ops a.tmps) = true) (x : Operand) (ho : o.op = .call { callee := .builtin .len, args := #[x], argTypes := #[ty] }) (hu : Try.prog.underlying ty = some (.slice e)) (hx : a.eval x = .slice p n c)
    (h : KQ ops C Q rest (a.put o.dst (.int .i64 (n : Int)))) : KQ ops C Q (o :: rest) a :=
  k_pure hw (fun w => by unfold execOp; simp [ho, resolve, invoke, builtin, hx, Builtin.len_, run_underlying hu, goInt]) h
end
set_option maxHeartbeats 4000000 in
set_option maxRecDepth 100000 in
theorem wrong_main (k g : Nat) (w : World) (hk : k < 23) (hg : g ≤ 50) :
    Calls Try.prog 5 #[.int .i64 (k : Int), .int .i64 (g : Int)] w fun e w' => e = .returned (.bool true) ∧ Tch [] w w' := by
  have hS := St.start w
  have HK1 := Lib.hid (wlA_at k hk)
  have HK2 := Lib.hid (wwA_at k hk)
  have hsh := w_short ⟨k, hk⟩
  simp only at hsh
  have hlen : (repL g ++ wLn k).length ≤ 570 := by rw [List.length_append, repL_len]; omega
  have HR := Lib.hid (fun w1 => aread_any (repL g ++ wLn k) w1 (fun x hx => (List.mem_append.1 hx).elim (repL_lt g x) (hsh.2 x)) (by omega))
  have hrd := w_rd k g hk hg
  have hrl := repL_len g
  have hl2 : (repL g).length + (wLn k).length ≤ 570 := by rw [← List.length_append]; exact hlen
  have HDK := Lib.hid (show decide ((23 : Int) ≤ (k : Int)) = false from decide_eq_false (by omega))
  have HDk0 := Lib.hid (show decide ((k : Int) < 0) = false from decide_eq_false (by omega))
  have HDg0 := Lib.hid (show decide ((g : Int) < 0) = false from decide_eq_false (by omega))
  have HDG := Lib.hid (show decide ((50 : Int) < (g : Int)) = false from decide_eq_false (by omega))
  clear hsh hlen
  go_enter Try.func5, Try.ntmps5
  go_upto_region 4 with (first
    | (go_at_call 7; refine (alive12 _).mono ?_; rintro e w1 ⟨rfl, hT1⟩; replace hS := hS.call hT1)
    | (refine st_bsO (c := wlA) (t := 9) (n := 23) (ty := 33) hS rfl rfl (fun w => by kernel_rfl) ?_; clear hS; intro w2 b1 hS)
    | (refine st_bsO (c := wwA) (t := 4) (n := 23) (ty := 34) hS rfl rfl (fun w => by kernel_rfl) ?_; clear hS; intro w3 b2 hS))
  refine k_seq (C := fun w' => St [] w w' [(b2, 4, wwA), (b1, 9, wlA)]) hS ?_
  refine k_val (v := .bool true) rfl _ (.inl rfl) rfl ?_; try simp only [Act.put, List.setIfInBounds_toArray, List.set_cons_zero, List.set_cons_succ]
  refine k_notV (s := true) (t := false) rfl _ _ rfl rfl rfl ?_; try simp only [Act.put, List.setIfInBounds_toArray, List.set_cons_zero, List.set_cons_succ]
  refine k_val (v := .bool false) rfl _ (.inl rfl) rfl ?_; try simp only [Act.put, List.setIfInBounds_toArray, List.set_cons_zero, List.set_cons_succ]
  refine k_val (v := .int .i64 (k : Int)) rfl _ (.inl rfl) rfl ?_; try simp only [Act.put, List.setIfInBounds_toArray, List.set_cons_zero, List.set_cons_succ]
  refine k_lss (m := (k : Int)) (n := 0) (t := false) rfl _ _ _ rfl rfl rfl HDk0.out ?_; try simp only [Act.put, List.setIfInBounds_toArray, List.set_cons_zero, List.set_cons_succ]
  refine k_pickF (t := false) rfl _ _ _ rfl rfl rfl ?_; try simp only [Act.put, List.setIfInBounds_toArray, List.set_cons_zero, List.set_cons_succ]
  refine k_val (v := .bool false) rfl _ (.inl rfl) rfl ?_; try simp only [Act.put, List.setIfInBounds_toArray, List.set_cons_zero, List.set_cons_succ]
  refine k_val (v := .int .i64 (k : Int)) rfl _ (.inl rfl) rfl ?_; try simp only [Act.put, List.setIfInBounds_toArray, List.set_cons_zero, List.set_cons_succ]
  refine k_val (v := .slice (some ⟨b1, 0, none⟩) 23 23) rfl _ (.inl rfl) rfl ?_; try simp only [Act.put, List.setIfInBounds_toArray, List.set_cons_zero, List.set_cons_succ]
  refine k_lenT (p := some ⟨b1, 0, none⟩) (n := 23) (c := 23) rfl _ rfl strs_ty rfl ?_; try simp only [Act.put, List.setIfInBounds_toArray, List.set_cons_zero, List.set_cons_succ]
  refine k_geqI (m := (k : Int)) (n := 23) (t := false) rfl _ _ _ rfl rfl rfl HDK.out ?_; try simp only [Act.put, List.setIfInBounds_toArray, List.set_cons_zero, List.set_cons_succ]
  refine k_pickF (t := false) rfl _ _ _ rfl rfl rfl ?_; try simp only [Act.put, List.setIfInBounds_toArray, List.set_cons_zero, List.set_cons_succ]
  refine k_val (v := .bool false) rfl _ (.inl rfl) rfl ?_; try simp only [Act.put, List.setIfInBounds_toArray, List.set_cons_zero, List.set_cons_succ]
  refine k_val (v := .int .i64 (g : Int)) rfl _ (.inl rfl) rfl ?_; try simp only [Act.put, List.setIfInBounds_toArray, List.set_cons_zero, List.set_cons_succ]
  refine k_lss (m := (g : Int)) (n := 0) (t := false) rfl _ _ _ rfl rfl rfl HDg0.out ?_; try simp only [Act.put, List.setIfInBounds_toArray, List.set_cons_zero, List.set_cons_succ]
  refine k_pickF (t := false) rfl _ _ _ rfl rfl rfl ?_; try simp only [Act.put, List.setIfInBounds_toArray, List.set_cons_zero, List.set_cons_succ]
  refine k_val (v := .bool false) rfl _ (.inl rfl) rfl ?_; try simp only [Act.put, List.setIfInBounds_toArray, List.set_cons_zero, List.set_cons_succ]
  refine k_val (v := .int .i64 (g : Int)) rfl _ (.inl rfl) rfl ?_; try simp only [Act.put, List.setIfInBounds_toArray, List.set_cons_zero, List.set_cons_succ]
  refine j_gtr (m := (g : Int)) (n := 50) (t := false) rfl _ _ _ rfl rfl rfl HDG.out ?_; try simp only [Act.put, List.setIfInBounds_toArray, List.set_cons_zero, List.set_cons_succ]
  refine k_pickF (t := false) rfl _ _ _ rfl rfl rfl ?_; try simp only [Act.put, List.setIfInBounds_toArray, List.set_cons_zero, List.set_cons_succ]
  refine k_end ?_
  clear hS
  intro w4 hS
  go_upto_region 8 with (fail)
  go_loopw [8, 9] (fun s i wr => ∃ j : Nat, s = .string (strB (repL j)) ∧ i = .int .i64 (j : Int) ∧ j ≤ g ∧ St [] w wr [(b2, 4, wwA), (b1, 9, wlA)]) (fun _ i _ => g - (intOf i).toNat)
  case atStart => exact ⟨0, rfl, rfl, Nat.zero_le _, hS⟩
  case round =>
    clear hS
    obtain ⟨j, rfl, rfl, hj, hS⟩ := hrel
    by_cases hlt : j < g
    · have hd : (j : Int) < (g : Int) := by omega
      have hjl := repL_len j
      go_upto_region 10 with (fail)
      refine k_seq (C := fun w' => St [] w w' [(b2, 4, wwA), (b1, 9, wlA)]) hS ?_
      refine k_val (v := .string (strB (repL j))) rfl _ (.inl rfl) rfl ?_; try simp only [Act.put, List.setIfInBounds_toArray, List.set_cons_zero, List.set_cons_succ]
      refine k_addL (l := repL j) (m := pushL ++ [10]) rfl _ _ _ _ rfl rfl rfl rfl (by rw [hjl]; show 11 * j + 11 ≤ 100000000; omega) ?_; try simp only [Act.put, List.setIfInBounds_toArray, List.set_cons_zero, List.set_cons_succ]
      refine k_val (v := .string (strB (repL (j + 1)))) rfl _ (.inr rfl) rfl ?_; try simp only [Act.put, List.setIfInBounds_toArray, List.set_cons_zero, List.set_cons_succ]
      refine k_end ?_
      clear hS
      intro w5 hS
      go_wp2
      go_roundw
      case rel => exact ⟨j + 1, rfl, by go_num, hlt, hS⟩
      case measure => simp [intOf]; omega
    · obtain rfl : j = g := by omega
      go_upto_region 11 with (fail)
      refine k_seq_head (C := fun w' => St [] w w' [(b2, 4, wwA), (b1, 9, wlA)]) 6 hS ?_
      simp only [List.take_succ_cons, List.take_zero]
      refine k_val (v := .string (strB (repL j))) rfl _ (.inl rfl) rfl ?_; try simp only [Act.put, List.setIfInBounds_toArray, List.set_cons_zero, List.set_cons_succ]
      refine k_val (v := .slice (some ⟨b1, 0, none⟩) 23 23) rfl _ (.inl rfl) rfl ?_; try simp only [Act.put, List.setIfInBounds_toArray, List.set_cons_zero, List.set_cons_succ]
      refine k_val (v := .int .i64 (k : Int)) rfl _ (.inl rfl) rfl ?_; try simp only [Act.put, List.setIfInBounds_toArray, List.set_cons_zero, List.set_cons_succ]
      refine k_idxSl (j := k) (b := b1) (off := 0) rfl _ _ _ rfl rfl rfl strs_ty str_size hk ?_; try simp only [Act.put, List.setIfInBounds_toArray, List.set_cons_zero, List.set_cons_succ]
      refine k_cellC (v := .string (strB (wLn k))) rfl _ _ rfl rfl (fun w' h => by rw [Nat.zero_add]; exact (h.get (.tail .head)).cell HK1.out) string_agg ?_; try simp only [Act.put, List.setIfInBounds_toArray, List.set_cons_zero, List.set_cons_succ]
      refine k_addL (l := repL j) (m := wLn k) rfl _ _ _ _ rfl rfl rfl rfl (by omega) ?_; try simp only [Act.put, List.setIfInBounds_toArray, List.set_cons_zero, List.set_cons_succ]
      refine k_end ?_
      clear hS
      intro w5 hS
      simp only [List.drop_succ_cons, List.drop_zero]
      cases hok : wOk k with
      | true =>
        rw [hok] at hrd
        obtain ⟨out, hrd, hol⟩ := hrd
        have hR2 := HR.out w5
        unfold RdPost2 at hR2
        rw [hrd] at hR2
        have HR3 := Lib.hid hR2
        have HO := Lib.hid hok
        clear hR2 hrd hok
        go_upto_region 12 with (go_at_call 9; refine HR3.out.mono ?_; rintro e w6 ⟨hT6, v6, rfl, hv6⟩; obtain ⟨p6, c6, rfl, hv6r⟩ := RdB.shape hv6)
        replace hS := hS.call hT6
        clear hv6 hv6r
        refine k_seq (C := fun w' => St [] w w' [(b2, 4, wwA), (b1, 9, wlA)]) hS ?_
        refine k_val (v := .slice (some ⟨b2, 0, none⟩) 23 23) rfl _ (.inl rfl) rfl ?_; try simp only [Act.put, List.setIfInBounds_toArray, List.set_cons_zero, List.set_cons_succ]
        refine k_val (v := .int .i64 (k : Int)) rfl _ (.inl rfl) rfl ?_; try simp only [Act.put, List.setIfInBounds_toArray, List.set_cons_zero, List.set_cons_succ]
        refine k_idxSl (j := k) (b := b2) (off := 0) rfl _ _ _ rfl rfl rfl bools_ty bool_size hk ?_; try simp only [Act.put, List.setIfInBounds_toArray, List.set_cons_zero, List.set_cons_succ]
        refine k_cellC (v := .bool true) rfl _ _ rfl rfl (fun w' h => by rw [Nat.zero_add, ← HO.out]; exact (h.get .head).cell HK2.out) bool_agg ?_; try simp only [Act.put, List.setIfInBounds_toArray, List.set_cons_zero, List.set_cons_succ]
        refine k_end ?_
        clear hS
        intro w7 hS
        have HM := Lib.hid (show IntKind.i64.wrap (2 * (j : Int)) = ((2 * j : Nat) : Int) by rw [IntKind.wrap_i64]; omega)
        have HGE := Lib.hid (show decide (((2 * j : Nat) : Int) ≤ (out.length : Int)) = true from decide_eq_true (by omega))
        go_upto_region 13 with (fail)
        refine k_seq (C := fun w' => St [] w w' [(b2, 4, wwA), (b1, 9, wlA)]) hS ?_
        refine k_val (v := .int .i64 0) rfl _ (.inl rfl) rfl ?_; try simp only [Act.put, List.setIfInBounds_toArray, List.set_cons_zero, List.set_cons_succ]
        refine k_callC1 (v1 := .int .i64 0) rfl rfl rfl Try.call11 (fun w' h => (num12_any _ w').mono fun e w'' h2 => ⟨h2.1, h2.2 ▸ h⟩) ?_; try simp only [Act.put, List.setIfInBounds_toArray, List.set_cons_zero, List.set_cons_succ]
        refine k_ints (t := true) rfl _ _ _ rfl rfl rfl (beq_self_eq_true _) ?_; try simp only [Act.put, List.setIfInBounds_toArray, List.set_cons_zero, List.set_cons_succ]
        refine k_val (v := .bool true) rfl _ (.inl rfl) rfl ?_; try simp only [Act.put, List.setIfInBounds_toArray, List.set_cons_zero, List.set_cons_succ]
        refine k_val (v := .int .i64 0) rfl _ (.inl rfl) rfl ?_; try simp only [Act.put, List.setIfInBounds_toArray, List.set_cons_zero, List.set_cons_succ]
        refine k_ints (t := true) rfl _ _ _ rfl rfl rfl (beq_self_eq_true _) ?_; try simp only [Act.put, List.setIfInBounds_toArray, List.set_cons_zero, List.set_cons_succ]
        refine k_pickT (t := true) rfl _ _ _ rfl rfl rfl ?_; try simp only [Act.put, List.setIfInBounds_toArray, List.set_cons_zero, List.set_cons_succ]
        refine k_val (v := .bool true) rfl _ (.inl rfl) rfl ?_; try simp only [Act.put, List.setIfInBounds_toArray, List.set_cons_zero, List.set_cons_succ]
        refine k_val (v := .slice p6 out.length c6) rfl _ (.inl rfl) rfl ?_; try simp only [Act.put, List.setIfInBounds_toArray, List.set_cons_zero, List.set_cons_succ]
        refine k_lenSl (p := p6) (n := out.length) (c := c6) rfl _ rfl rfl ?_; try simp only [Act.put, List.setIfInBounds_toArray, List.set_cons_zero, List.set_cons_succ]
        refine k_val (v := .int .i64 (j : Int)) rfl _ (.inl rfl) rfl ?_; try simp only [Act.put, List.setIfInBounds_toArray, List.set_cons_zero, List.set_cons_succ]
        refine k_mulI (m := 2) (n := (j : Int)) (s := ((2 * j : Nat) : Int)) rfl _ _ _ _ rfl rfl rfl HM.out ?_; try simp only [Act.put, List.setIfInBounds_toArray, List.set_cons_zero, List.set_cons_succ]
        refine k_geqI (m := (out.length : Int)) (n := ((2 * j : Nat) : Int)) (t := true) rfl _ _ _ rfl rfl rfl HGE.out ?_; try simp only [Act.put, List.setIfInBounds_toArray, List.set_cons_zero, List.set_cons_succ]
        refine k_pickT (t := true) rfl _ _ _ rfl rfl rfl ?_; try simp only [Act.put, List.setIfInBounds_toArray, List.set_cons_zero, List.set_cons_succ]
        refine k_val (v := .bool true) rfl _ (.inr rfl) rfl ?_; try simp only [Act.put, List.setIfInBounds_toArray, List.set_cons_zero, List.set_cons_succ]
        refine k_end ?_
        clear hS
        intro w8 hS
        go_wp2
        go_ret
        exact ⟨rfl, hS.frame⟩
      | false =>
        rw [hok] at hrd
        have hR2 := HR.out w5
        unfold RdPost2 at hR2
        rw [show rdA (repL j ++ wLn k) = ([], j + 1, 2) from hrd] at hR2
        have HR3 := Lib.hid hR2
        have HO := Lib.hid hok
        clear hR2 hrd hok
        go_upto_region 12 with (go_at_call 9; refine HR3.out.mono ?_; rintro e w6 ⟨hT6, v6, rfl, hv6⟩; obtain ⟨p6, c6, rfl, hv6r⟩ := RdB.shape hv6)
        replace hS := hS.call hT6
        clear hv6 hv6r
        refine k_seq (C := fun w' => St [] w w' [(b2, 4, wwA), (b1, 9, wlA)]) hS ?_
        refine k_val (v := .slice (some ⟨b2, 0, none⟩) 23 23) rfl _ (.inl rfl) rfl ?_; try simp only [Act.put, List.setIfInBounds_toArray, List.set_cons_zero, List.set_cons_succ]
        refine k_val (v := .int .i64 (k : Int)) rfl _ (.inl rfl) rfl ?_; try simp only [Act.put, List.setIfInBounds_toArray, List.set_cons_zero, List.set_cons_succ]
        refine k_idxSl (j := k) (b := b2) (off := 0) rfl _ _ _ rfl rfl rfl bools_ty bool_size hk ?_; try simp only [Act.put, List.setIfInBounds_toArray, List.set_cons_zero, List.set_cons_succ]
        refine k_cellC (v := .bool false) rfl _ _ rfl rfl (fun w' h => by rw [Nat.zero_add, ← HO.out]; exact (h.get .head).cell HK2.out) bool_agg ?_; try simp only [Act.put, List.setIfInBounds_toArray, List.set_cons_zero, List.set_cons_succ]
        refine k_end ?_
        clear hS
        intro w7 hS
        have HM := Lib.hid (show IntKind.i64.wrap ((j : Int) + 1) = ((j + 1 : Nat) : Int) by rw [IntKind.wrap_i64]; omega)
        go_upto_region 14 with (fail)
        refine k_seq (C := fun w' => St [] w w' [(b2, 4, wwA), (b1, 9, wlA)]) hS ?_
        refine k_val (v := .int .i64 2) rfl _ (.inl rfl) rfl ?_; try simp only [Act.put, List.setIfInBounds_toArray, List.set_cons_zero, List.set_cons_succ]
        refine k_callC1 (v1 := .int .i64 2) rfl rfl rfl Try.call11 (fun w' h => (num12_any _ w').mono fun e w'' h2 => ⟨h2.1, h2.2 ▸ h⟩) ?_; try simp only [Act.put, List.setIfInBounds_toArray, List.set_cons_zero, List.set_cons_succ]
        refine k_ints (t := true) rfl _ _ _ rfl rfl rfl (beq_self_eq_true _) ?_; try simp only [Act.put, List.setIfInBounds_toArray, List.set_cons_zero, List.set_cons_succ]
        refine k_val (v := .bool true) rfl _ (.inl rfl) rfl ?_; try simp only [Act.put, List.setIfInBounds_toArray, List.set_cons_zero, List.set_cons_succ]
        refine k_val (v := .int .i64 ((j + 1 : Nat) : Int)) rfl _ (.inl rfl) rfl ?_; try simp only [Act.put, List.setIfInBounds_toArray, List.set_cons_zero, List.set_cons_succ]
        refine k_val (v := .int .i64 (j : Int)) rfl _ (.inl rfl) rfl ?_; try simp only [Act.put, List.setIfInBounds_toArray, List.set_cons_zero, List.set_cons_succ]
        refine k_add (m := (j : Int)) (n := 1) (s := ((j + 1 : Nat) : Int)) rfl _ _ _ _ rfl rfl rfl HM.out ?_; try simp only [Act.put, List.setIfInBounds_toArray, List.set_cons_zero, List.set_cons_succ]
        refine k_ints (t := true) rfl _ _ _ rfl rfl rfl (beq_self_eq_true _) ?_; try simp only [Act.put, List.setIfInBounds_toArray, List.set_cons_zero, List.set_cons_succ]
        refine k_pickT (t := true) rfl _ _ _ rfl rfl rfl ?_; try simp only [Act.put, List.setIfInBounds_toArray, List.set_cons_zero, List.set_cons_succ]
        refine k_val (v := .bool true) rfl _ (.inl rfl) rfl ?_; try simp only [Act.put, List.setIfInBounds_toArray, List.set_cons_zero, List.set_cons_succ]
        refine k_val (v := .slice p6 ([] : List Nat).length c6) rfl _ (.inl rfl) rfl ?_; try simp only [Act.put, List.setIfInBounds_toArray, List.set_cons_zero, List.set_cons_succ]
        refine k_lenSl (p := p6) (n := 0) (c := c6) rfl _ rfl rfl ?_; try simp only [Act.put, List.setIfInBounds_toArray, List.set_cons_zero, List.set_cons_succ]
        refine k_ints (t := true) rfl _ _ _ rfl rfl rfl (beq_self_eq_true _) ?_; try simp only [Act.put, List.setIfInBounds_toArray, List.set_cons_zero, List.set_cons_succ]
        refine k_pickT (t := true) rfl _ _ _ rfl rfl rfl ?_; try simp only [Act.put, List.setIfInBounds_toArray, List.set_cons_zero, List.set_cons_succ]
        refine k_val (v := .bool true) rfl _ (.inr rfl) rfl ?_; try simp only [Act.put, List.setIfInBounds_toArray, List.set_cons_zero, List.set_cons_succ]
        refine k_end ?_
        clear hS
        intro w8 hS
        go_wp2
        go_ret
        exact ⟨rfl, hS.frame⟩
set_option maxHeartbeats 4000000 in
set_option maxRecDepth 100000 in
theorem wrong_out (a0 a1 : Int) (w : World) (h : a0 < 0 ∨ (0 ≤ a0 ∧ 23 ≤ a0) ∨ (0 ≤ a0 ∧ a0 < 23 ∧ a1 < 0) ∨ (0 ≤ a0 ∧ a0 < 23 ∧ 0 ≤ a1 ∧ 50 < a1)) :
    Calls Try.prog 5 #[.int .i64 a0, .int .i64 a1] w fun e w' => e = .returned (.bool true) ∧ Tch [] w w' := by
  have hS := St.start w
  rcases h with h | ⟨h, h2⟩ | ⟨h, h2, h3⟩ | ⟨h, h2, h3, h4⟩
  · have HA := Lib.hid (show decide (a0 < 0) = true from decide_eq_true (by omega))
    go_enter Try.func5, Try.ntmps5
    go_upto_region 4 with (first
      | (go_at_call 7; refine (alive12 _).mono ?_; rintro e w1 ⟨rfl, hT1⟩; replace hS := hS.call hT1)
      | (refine st_bsO (c := wlA) (t := 9) (n := 23) (ty := 33) hS rfl rfl (fun w => by kernel_rfl) ?_; clear hS; intro w2 b1 hS)
      | (refine st_bsO (c := wwA) (t := 4) (n := 23) (ty := 34) hS rfl rfl (fun w => by kernel_rfl) ?_; clear hS; intro w3 b2 hS))
    refine k_seq (C := fun w' => St [] w w' [(b2, 4, wwA), (b1, 9, wlA)]) hS ?_
    refine k_val (v := .bool true) rfl _ (.inl rfl) rfl ?_; try simp only [Act.put, List.setIfInBounds_toArray, List.set_cons_zero, List.set_cons_succ]
    refine k_notV (s := true) (t := false) rfl _ _ rfl rfl rfl ?_; try simp only [Act.put, List.setIfInBounds_toArray, List.set_cons_zero, List.set_cons_succ]
    refine k_val (v := .bool false) rfl _ (.inl rfl) rfl ?_; try simp only [Act.put, List.setIfInBounds_toArray, List.set_cons_zero, List.set_cons_succ]
    refine k_val (v := .int .i64 a0) rfl _ (.inl rfl) rfl ?_; try simp only [Act.put, List.setIfInBounds_toArray, List.set_cons_zero, List.set_cons_succ]
    refine k_lss (m := a0) (n := 0) (t := true) rfl _ _ _ rfl rfl rfl HA.out ?_; try simp only [Act.put, List.setIfInBounds_toArray, List.set_cons_zero, List.set_cons_succ]
    refine k_pickF (t := true) rfl _ _ _ rfl rfl rfl ?_; try simp only [Act.put, List.setIfInBounds_toArray, List.set_cons_zero, List.set_cons_succ]
    refine k_val (v := .bool true) rfl _ (.inl rfl) rfl ?_; try simp only [Act.put, List.setIfInBounds_toArray, List.set_cons_zero, List.set_cons_succ]
    refine k_skip rfl rfl rfl rfl rfl ?_; try simp only [Act.put, List.setIfInBounds_toArray, List.set_cons_zero, List.set_cons_succ]
    refine k_skip rfl rfl rfl rfl rfl ?_; try simp only [Act.put, List.setIfInBounds_toArray, List.set_cons_zero, List.set_cons_succ]
    refine k_skip rfl rfl rfl rfl rfl ?_; try simp only [Act.put, List.setIfInBounds_toArray, List.set_cons_zero, List.set_cons_succ]
    refine k_skip rfl rfl rfl rfl rfl ?_; try simp only [Act.put, List.setIfInBounds_toArray, List.set_cons_zero, List.set_cons_succ]
    refine k_pickT (t := true) rfl _ _ _ rfl rfl rfl ?_; try simp only [Act.put, List.setIfInBounds_toArray, List.set_cons_zero, List.set_cons_succ]
    refine k_val (v := .bool true) rfl _ (.inl rfl) rfl ?_; try simp only [Act.put, List.setIfInBounds_toArray, List.set_cons_zero, List.set_cons_succ]
    refine k_skip rfl rfl rfl rfl rfl ?_; try simp only [Act.put, List.setIfInBounds_toArray, List.set_cons_zero, List.set_cons_succ]
    refine k_skip rfl rfl rfl rfl rfl ?_; try simp only [Act.put, List.setIfInBounds_toArray, List.set_cons_zero, List.set_cons_succ]
    refine k_pickT (t := true) rfl _ _ _ rfl rfl rfl ?_; try simp only [Act.put, List.setIfInBounds_toArray, List.set_cons_zero, List.set_cons_succ]
    refine k_val (v := .bool true) rfl _ (.inl rfl) rfl ?_; try simp only [Act.put, List.setIfInBounds_toArray, List.set_cons_zero, List.set_cons_succ]
    refine k_skip rfl rfl rfl rfl rfl ?_; try simp only [Act.put, List.setIfInBounds_toArray, List.set_cons_zero, List.set_cons_succ]
    refine k_skip rfl rfl rfl rfl rfl ?_; try simp only [Act.put, List.setIfInBounds_toArray, List.set_cons_zero, List.set_cons_succ]
    refine k_pickT (t := true) rfl _ _ _ rfl rfl rfl ?_; try simp only [Act.put, List.setIfInBounds_toArray, List.set_cons_zero, List.set_cons_succ]
    refine k_end ?_
    clear hS
    intro w4 hS
    go_wp2
    go_ret
    exact ⟨rfl, hS.frame⟩
  · have HA := Lib.hid (show decide (a0 < 0) = false from decide_eq_false (by omega))
    have HB := Lib.hid (show decide ((23 : Int) ≤ a0) = true from decide_eq_true (by omega))
    go_enter Try.func5, Try.ntmps5
    go_upto_region 4 with (first
      | (go_at_call 7; refine (alive12 _).mono ?_; rintro e w1 ⟨rfl, hT1⟩; replace hS := hS.call hT1)
      | (refine st_bsO (c := wlA) (t := 9) (n := 23) (ty := 33) hS rfl rfl (fun w => by kernel_rfl) ?_; clear hS; intro w2 b1 hS)
      | (refine st_bsO (c := wwA) (t := 4) (n := 23) (ty := 34) hS rfl rfl (fun w => by kernel_rfl) ?_; clear hS; intro w3 b2 hS))
    refine k_seq (C := fun w' => St [] w w' [(b2, 4, wwA), (b1, 9, wlA)]) hS ?_
    refine k_val (v := .bool true) rfl _ (.inl rfl) rfl ?_; try simp only [Act.put, List.setIfInBounds_toArray, List.set_cons_zero, List.set_cons_succ]
    refine k_notV (s := true) (t := false) rfl _ _ rfl rfl rfl ?_; try simp only [Act.put, List.setIfInBounds_toArray, List.set_cons_zero, List.set_cons_succ]
    refine k_val (v := .bool false) rfl _ (.inl rfl) rfl ?_; try simp only [Act.put, List.setIfInBounds_toArray, List.set_cons_zero, List.set_cons_succ]
    refine k_val (v := .int .i64 a0) rfl _ (.inl rfl) rfl ?_; try simp only [Act.put, List.setIfInBounds_toArray, List.set_cons_zero, List.set_cons_succ]
    refine k_lss (m := a0) (n := 0) (t := false) rfl _ _ _ rfl rfl rfl HA.out ?_; try simp only [Act.put, List.setIfInBounds_toArray, List.set_cons_zero, List.set_cons_succ]
    refine k_pickF (t := false) rfl _ _ _ rfl rfl rfl ?_; try simp only [Act.put, List.setIfInBounds_toArray, List.set_cons_zero, List.set_cons_succ]
    refine k_val (v := .bool false) rfl _ (.inl rfl) rfl ?_; try simp only [Act.put, List.setIfInBounds_toArray, List.set_cons_zero, List.set_cons_succ]
    refine k_val (v := .int .i64 a0) rfl _ (.inl rfl) rfl ?_; try simp only [Act.put, List.setIfInBounds_toArray, List.set_cons_zero, List.set_cons_succ]
    refine k_val (v := .slice (some ⟨b1, 0, none⟩) 23 23) rfl _ (.inl rfl) rfl ?_; try simp only [Act.put, List.setIfInBounds_toArray, List.set_cons_zero, List.set_cons_succ]
    refine k_lenT (p := some ⟨b1, 0, none⟩) (n := 23) (c := 23) rfl _ rfl strs_ty rfl ?_; try simp only [Act.put, List.setIfInBounds_toArray, List.set_cons_zero, List.set_cons_succ]
    refine k_geqI (m := a0) (n := 23) (t := true) rfl _ _ _ rfl rfl rfl HB.out ?_; try simp only [Act.put, List.setIfInBounds_toArray, List.set_cons_zero, List.set_cons_succ]
    refine k_pickF (t := true) rfl _ _ _ rfl rfl rfl ?_; try simp only [Act.put, List.setIfInBounds_toArray, List.set_cons_zero, List.set_cons_succ]
    refine k_val (v := .bool true) rfl _ (.inl rfl) rfl ?_; try simp only [Act.put, List.setIfInBounds_toArray, List.set_cons_zero, List.set_cons_succ]
    refine k_skip rfl rfl rfl rfl rfl ?_; try simp only [Act.put, List.setIfInBounds_toArray, List.set_cons_zero, List.set_cons_succ]
    refine k_skip rfl rfl rfl rfl rfl ?_; try simp only [Act.put, List.setIfInBounds_toArray, List.set_cons_zero, List.set_cons_succ]
    refine k_pickT (t := true) rfl _ _ _ rfl rfl rfl ?_; try simp only [Act.put, List.setIfInBounds_toArray, List.set_cons_zero, List.set_cons_succ]
    refine k_val (v := .bool true) rfl _ (.inl rfl) rfl ?_; try simp only [Act.put, List.setIfInBounds_toArray, List.set_cons_zero, List.set_cons_succ]
    refine k_skip rfl rfl rfl rfl rfl ?_; try simp only [Act.put, List.setIfInBounds_toArray, List.set_cons_zero, List.set_cons_succ]
    refine k_skip rfl rfl rfl rfl rfl ?_; try simp only [Act.put, List.setIfInBounds_toArray, List.set_cons_zero, List.set_cons_succ]
    refine k_pickT (t := true) rfl _ _ _ rfl rfl rfl ?_; try simp only [Act.put, List.setIfInBounds_toArray, List.set_cons_zero, List.set_cons_succ]
    refine k_end ?_
    clear hS
    intro w4 hS
    go_wp2
    go_ret
    exact ⟨rfl, hS.frame⟩
  · have HA := Lib.hid (show decide (a0 < 0) = false from decide_eq_false (by omega))
    have HB := Lib.hid (show decide ((23 : Int) ≤ a0) = false from decide_eq_false (by omega))
    have HC := Lib.hid (show decide (a1 < 0) = true from decide_eq_true (by omega))
    go_enter Try.func5, Try.ntmps5
    go_upto_region 4 with (first
      | (go_at_call 7; refine (alive12 _).mono ?_; rintro e w1 ⟨rfl, hT1⟩; replace hS := hS.call hT1)
      | (refine st_bsO (c := wlA) (t := 9) (n := 23) (ty := 33) hS rfl rfl (fun w => by kernel_rfl) ?_; clear hS; intro w2 b1 hS)
      | (refine st_bsO (c := wwA) (t := 4) (n := 23) (ty := 34) hS rfl rfl (fun w => by kernel_rfl) ?_; clear hS; intro w3 b2 hS))
    refine k_seq (C := fun w' => St [] w w' [(b2, 4, wwA), (b1, 9, wlA)]) hS ?_
    refine k_val (v := .bool true) rfl _ (.inl rfl) rfl ?_; try simp only [Act.put, List.setIfInBounds_toArray, List.set_cons_zero, List.set_cons_succ]
    refine k_notV (s := true) (t := false) rfl _ _ rfl rfl rfl ?_; try simp only [Act.put, List.setIfInBounds_toArray, List.set_cons_zero, List.set_cons_succ]
    refine k_val (v := .bool false) rfl _ (.inl rfl) rfl ?_; try simp only [Act.put, List.setIfInBounds_toArray, List.set_cons_zero, List.set_cons_succ]
    refine k_val (v := .int .i64 a0) rfl _ (.inl rfl) rfl ?_; try simp only [Act.put, List.setIfInBounds_toArray, List.set_cons_zero, List.set_cons_succ]
    refine k_lss (m := a0) (n := 0) (t := false) rfl _ _ _ rfl rfl rfl HA.out ?_; try simp only [Act.put, List.setIfInBounds_toArray, List.set_cons_zero, List.set_cons_succ]
    refine k_pickF (t := false) rfl _ _ _ rfl rfl rfl ?_; try simp only [Act.put, List.setIfInBounds_toArray, List.set_cons_zero, List.set_cons_succ]
    refine k_val (v := .bool false) rfl _ (.inl rfl) rfl ?_; try simp only [Act.put, List.setIfInBounds_toArray, List.set_cons_zero, List.set_cons_succ]
    refine k_val (v := .int .i64 a0) rfl _ (.inl rfl) rfl ?_; try simp only [Act.put, List.setIfInBounds_toArray, List.set_cons_zero, List.set_cons_succ]
    refine k_val (v := .slice (some ⟨b1, 0, none⟩) 23 23) rfl _ (.inl rfl) rfl ?_; try simp only [Act.put, List.setIfInBounds_toArray, List.set_cons_zero, List.set_cons_succ]
    refine k_lenT (p := some ⟨b1, 0, none⟩) (n := 23) (c := 23) rfl _ rfl strs_ty rfl ?_; try simp only [Act.put, List.setIfInBounds_toArray, List.set_cons_zero, List.set_cons_succ]
    refine k_geqI (m := a0) (n := 23) (t := false) rfl _ _ _ rfl rfl rfl HB.out ?_; try simp only [Act.put, List.setIfInBounds_toArray, List.set_cons_zero, List.set_cons_succ]
    refine k_pickF (t := false) rfl _ _ _ rfl rfl rfl ?_; try simp only [Act.put, List.setIfInBounds_toArray, List.set_cons_zero, List.set_cons_succ]
    refine k_val (v := .bool false) rfl _ (.inl rfl) rfl ?_; try simp only [Act.put, List.setIfInBounds_toArray, List.set_cons_zero, List.set_cons_succ]
    refine k_val (v := .int .i64 a1) rfl _ (.inl rfl) rfl ?_; try simp only [Act.put, List.setIfInBounds_toArray, List.set_cons_zero, List.set_cons_succ]
    refine k_lss (m := a1) (n := 0) (t := true) rfl _ _ _ rfl rfl rfl HC.out ?_; try simp only [Act.put, List.setIfInBounds_toArray, List.set_cons_zero, List.set_cons_succ]
    refine k_pickF (t := true) rfl _ _ _ rfl rfl rfl ?_; try simp only [Act.put, List.setIfInBounds_toArray, List.set_cons_zero, List.set_cons_succ]
    refine k_val (v := .bool true) rfl _ (.inl rfl) rfl ?_; try simp only [Act.put, List.setIfInBounds_toArray, List.set_cons_zero, List.set_cons_succ]
    refine k_skip rfl rfl rfl rfl rfl ?_; try simp only [Act.put, List.setIfInBounds_toArray, List.set_cons_zero, List.set_cons_succ]
    refine k_skip rfl rfl rfl rfl rfl ?_; try simp only [Act.put, List.setIfInBounds_toArray, List.set_cons_zero, List.set_cons_succ]
    refine k_pickT (t := true) rfl _ _ _ rfl rfl rfl ?_; try simp only [Act.put, List.setIfInBounds_toArray, List.set_cons_zero, List.set_cons_succ]
    refine k_end ?_
    clear hS
    intro w4 hS
    go_wp2
    go_ret
    exact ⟨rfl, hS.frame⟩
  · have HA := Lib.hid (show decide (a0 < 0) = false from decide_eq_false (by omega))
    have HB := Lib.hid (show decide ((23 : Int) ≤ a0) = false from decide_eq_false (by omega))
    have HC := Lib.hid (show decide (a1 < 0) = false from decide_eq_false (by omega))
    have HD := Lib.hid (show decide ((50 : Int) < a1) = true from decide_eq_true (by omega))
    go_enter Try.func5, Try.ntmps5
    go_upto_region 4 with (first
      | (go_at_call 7; refine (alive12 _).mono ?_; rintro e w1 ⟨rfl, hT1⟩; replace hS := hS.call hT1)
      | (refine st_bsO (c := wlA) (t := 9) (n := 23) (ty := 33) hS rfl rfl (fun w => by kernel_rfl) ?_; clear hS; intro w2 b1 hS)
      | (refine st_bsO (c := wwA) (t := 4) (n := 23) (ty := 34) hS rfl rfl (fun w => by kernel_rfl) ?_; clear hS; intro w3 b2 hS))
    refine k_seq (C := fun w' => St [] w w' [(b2, 4, wwA), (b1, 9, wlA)]) hS ?_
    refine k_val (v := .bool true) rfl _ (.inl rfl) rfl ?_; try simp only [Act.put, List.setIfInBounds_toArray, List.set_cons_zero, List.set_cons_succ]
    refine k_notV (s := true) (t := false) rfl _ _ rfl rfl rfl ?_; try simp only [Act.put, List.setIfInBounds_toArray, List.set_cons_zero, List.set_cons_succ]
    refine k_val (v := .bool false) rfl _ (.inl rfl) rfl ?_; try simp only [Act.put, List.setIfInBounds_toArray, List.set_cons_zero, List.set_cons_succ]
    refine k_val (v := .int .i64 a0) rfl _ (.inl rfl) rfl ?_; try simp only [Act.put, List.setIfInBounds_toArray, List.set_cons_zero, List.set_cons_succ]
    refine k_lss (m := a0) (n := 0) (t := false) rfl _ _ _ rfl rfl rfl HA.out ?_; try simp only [Act.put, List.setIfInBounds_toArray, List.set_cons_zero, List.set_cons_succ]
    refine k_pickF (t := false) rfl _ _ _ rfl rfl rfl ?_; try simp only [Act.put, List.setIfInBounds_toArray, List.set_cons_zero, List.set_cons_succ]
    refine k_val (v := .bool false) rfl _ (.inl rfl) rfl ?_; try simp only [Act.put, List.setIfInBounds_toArray, List.set_cons_zero, List.set_cons_succ]
    refine k_val (v := .int .i64 a0) rfl _ (.inl rfl) rfl ?_; try simp only [Act.put, List.setIfInBounds_toArray, List.set_cons_zero, List.set_cons_succ]
    refine k_val (v := .slice (some ⟨b1, 0, none⟩) 23 23) rfl _ (.inl rfl) rfl ?_; try simp only [Act.put, List.setIfInBounds_toArray, List.set_cons_zero, List.set_cons_succ]
    refine k_lenT (p := some ⟨b1, 0, none⟩) (n := 23) (c := 23) rfl _ rfl strs_ty rfl ?_; try simp only [Act.put, List.setIfInBounds_toArray, List.set_cons_zero, List.set_cons_succ]
    refine k_geqI (m := a0) (n := 23) (t := false) rfl _ _ _ rfl rfl rfl HB.out ?_; try simp only [Act.put, List.setIfInBounds_toArray, List.set_cons_zero, List.set_cons_succ]
    refine k_pickF (t := false) rfl _ _ _ rfl rfl rfl ?_; try simp only [Act.put, List.setIfInBounds_toArray, List.set_cons_zero, List.set_cons_succ]
    refine k_val (v := .bool false) rfl _ (.inl rfl) rfl ?_; try simp only [Act.put, List.setIfInBounds_toArray, List.set_cons_zero, List.set_cons_succ]
    refine k_val (v := .int .i64 a1) rfl _ (.inl rfl) rfl ?_; try simp only [Act.put, List.setIfInBounds_toArray, List.set_cons_zero, List.set_cons_succ]
    refine k_lss (m := a1) (n := 0) (t := false) rfl _ _ _ rfl rfl rfl HC.out ?_; try simp only [Act.put, List.setIfInBounds_toArray, List.set_cons_zero, List.set_cons_succ]
    refine k_pickF (t := false) rfl _ _ _ rfl rfl rfl ?_; try simp only [Act.put, List.setIfInBounds_toArray, List.set_cons_zero, List.set_cons_succ]
    refine k_val (v := .bool false) rfl _ (.inl rfl) rfl ?_; try simp only [Act.put, List.setIfInBounds_toArray, List.set_cons_zero, List.set_cons_succ]
    refine k_val (v := .int .i64 a1) rfl _ (.inl rfl) rfl ?_; try simp only [Act.put, List.setIfInBounds_toArray, List.set_cons_zero, List.set_cons_succ]
    refine j_gtr (m := a1) (n := 50) (t := true) rfl _ _ _ rfl rfl rfl HD.out ?_; try simp only [Act.put, List.setIfInBounds_toArray, List.set_cons_zero, List.set_cons_succ]
    refine k_pickF (t := true) rfl _ _ _ rfl rfl rfl ?_; try simp only [Act.put, List.setIfInBounds_toArray, List.set_cons_zero, List.set_cons_succ]
    refine k_end ?_
    clear hS
    intro w4 hS
    go_wp2
    go_ret
    exact ⟨rfl, hS.frame⟩
theorem wrong_walk (a0 a1 : Int) (w : World) :
    Calls Try.prog 5 #[.int .i64 a0, .int .i64 a1] w fun e w' => e = .returned (.bool true) ∧ Tch [] w w' := by
  by_cases h1 : a0 < 0
  · have HDk0 := Lib.hid (show decide (a0 < 0) = true from decide_eq_true h1)
    exact wrong_out a0 a1 w (.inl h1)
  by_cases h2 : 23 ≤ a0
  · exact wrong_out a0 a1 w (.inr (.inl ⟨by omega, h2⟩))
  by_cases h3 : a1 < 0
  · exact wrong_out a0 a1 w (.inr (.inr (.inl ⟨by omega, by omega, h3⟩)))
  by_cases h4 : 50 < a1
  · exact wrong_out a0 a1 w (.inr (.inr (.inr ⟨by omega, by omega, by omega, h4⟩)))
  obtain ⟨k, rfl⟩ : ∃ k : Nat, a0 = k := ⟨a0.toNat, by omega⟩
  obtain ⟨g, rfl⟩ : ∃ g : Nat, a1 = g := ⟨a1.toNat, by omega⟩
  exact wrong_main k g w (by omega) (by omega)
end Go.Proofs.Ytjbjjiibldlipaa
