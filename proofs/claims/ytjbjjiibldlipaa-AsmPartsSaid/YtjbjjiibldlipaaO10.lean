/- Structs side by side in one block: read, stored; the document's Digits. -/
import Derived.Test.YtjbjjiibldlipaaO8
namespace Go.Proofs.Ytjbjjiibldlipaa
open Go.RowKit

/-- Structs of m cells each, side by side. -/
def fl (f : Nat → Array Value) (N : Nat) : Array Value := ((List.range N).flatMap fun i => (f i).toList).toArray
theorem fl_size {m : Nat} {f : Nat → Array Value} (hf : ∀ i, (f i).size = m) (N : Nat) : (fl f N).size = N * m := by
  show ((List.range N).flatMap fun i => (f i).toList).length = _
  exact flat_len (fun i => by simp [hf]) N
theorem fl_get {m : Nat} (hm : 0 < m) {f : Nat → Array Value} (hf : ∀ i, (f i).size = m) : ∀ (N k : Nat), k < N * m → (fl f N)[k]? = (f (k / m))[k % m]?
  | 0, k, h => by simp at h
  | N + 1, k, h => by
    have e : fl f (N + 1) = fl f N ++ f N := by
      apply Array.ext'
      simp [fl, List.range_succ, List.flatMap_append]
    rw [e]
    by_cases hk : k < N * m
    · rw [Array.getElem?_append_left (by rw [fl_size hf]; exact hk)]
      exact fl_get hm hf N k hk
    · rw [Array.getElem?_append_right (by rw [fl_size hf]; omega), fl_size hf]
      have h1 : k / m = N := by
        rw [Nat.div_eq_iff hm]
        rw [Nat.succ_mul] at h
        omega
      have h2 : k % m = k - N * m := by
        have := Nat.div_add_mod k m
        rw [h1, Nat.mul_comm] at this
        omega
      rw [h1, h2]
theorem fl_none {m : Nat} {f : Nat → Array Value} (hf : ∀ i, (f i).size = m) {N k : Nat} (h : N * m ≤ k) : (fl f N)[k]? = none := Array.getElem?_eq_none (by rw [fl_size hf]; exact h)
theorem fl_at {m : Nat} {f : Nat → Array Value} (hf : ∀ i, (f i).size = m) {N i j : Nat} (hi : i < N) (hj : j < m) : (fl f N)[i * m + j]? = (f i)[j]? := by
  have hm : 0 < m := by omega
  have h1 : i * m + m ≤ N * m := by rw [← Nat.succ_mul]; exact Nat.mul_le_mul_right _ hi
  rw [fl_get hm hf N _ (by omega)]
  have e1 : (i * m + j) / m = i := by rw [Nat.div_eq_iff hm]; omega
  have e2 : (i * m + j) % m = j := by rw [Nat.mul_comm, Nat.mul_add_mod, Nat.mod_eq_of_lt hj]
  rw [e1, e2]
theorem fl_extract {m : Nat} {f : Nat → Array Value} (hf : ∀ i, (f i).size = m) {N i : Nat} (hi : i < N) : (fl f N).extract (i * m) (i * m + m) = f i := by
  have h1 : i * m + m ≤ N * m := by rw [← Nat.succ_mul]; exact Nat.mul_le_mul_right _ hi
  apply Array.ext_getElem?
  intro j
  rw [Array.getElem?_extract]
  have hs := fl_size hf N
  by_cases hj : j < m
  · rw [if_pos (by omega)]
    exact fl_at hf hi hj
  · rw [if_neg (by omega), Array.getElem?_eq_none (by rw [hf]; omega)]
def splO (c : Array Value) (o : Nat) (c' : Array Value) : Array Value := (c.toList.take o ++ c'.toList ++ c.toList.drop (o + c'.toList.length)).toArray
theorem splO_in (c : Array Value) (o : Nat) (c' : Array Value) (h : o + c'.size ≤ c.size) (j : Nat) : (splO c o c')[j]? = if o ≤ j ∧ j < o + c'.size then c'[j - o]? else c[j]? := by
  unfold splO
  rw [List.getElem?_toArray, List.append_assoc]
  by_cases h1 : j < o
  · rw [if_neg (by omega), List.getElem?_append_left (by simp; omega), List.getElem?_take, if_pos h1, Array.getElem?_toList]
  · rw [List.getElem?_append_right (by simp; omega)]
    simp only [List.length_take, Array.length_toList, Nat.min_eq_left (show o ≤ c.size by omega)]
    by_cases h2 : j < o + c'.size
    · rw [if_pos (by omega), List.getElem?_append_left (by simp; omega), Array.getElem?_toList]
    · rw [if_neg (by omega), List.getElem?_append_right (by simp; omega), List.getElem?_drop, Array.length_toList, show o + c'.size + (j - o - c'.size) = j by omega, Array.getElem?_toList]
theorem splO_fl {m : Nat} {f : Nat → Array Value} (hf : ∀ i, (f i).size = m) {N i : Nat} (hi : i < N) (g : Array Value) (hg : g.size = m) (hm : 0 < m) : splO (fl f N) (i * m) g = fl (fun j => if j = i then g else f j) N := by
  have h1 : i * m + m ≤ N * m := by rw [← Nat.succ_mul]; exact Nat.mul_le_mul_right _ hi
  have hf' : ∀ j, ((fun j => if j = i then g else f j) j).size = m := by intro j; show (if j = i then g else f j).size = m; split; exact hg; exact hf j
  apply Array.ext_getElem?
  intro k
  rw [splO_in _ _ _ (by rw [fl_size hf, hg]; exact h1), hg]
  by_cases hk : k < N * m
  · rw [fl_get hm hf N k hk, fl_get hm hf' N k hk]
    by_cases hin : i * m ≤ k ∧ k < i * m + m
    · have e1 : k / m = i := by rw [Nat.div_eq_iff hm]; omega
      have e2 : k % m = k - i * m := by
        have := Nat.div_add_mod k m
        rw [e1, Nat.mul_comm] at this
        omega
      rw [if_pos hin, e1, if_pos rfl, e2]
    · rw [if_neg hin, if_neg]
      intro e
      have := Nat.div_add_mod k m
      have hlt := Nat.mod_lt k hm
      rw [e, Nat.mul_comm] at this
      omega
  · rw [fl_none hf (by omega), fl_none hf' (by omega)]
    split
    · omega
    · rfl
theorem Blk.storeO {w : World} {b o : Nat} {t ty : TypeId} {c c' : Array Value} (h : Blk w b t c) {n : Nat} (hi : (Try.prog.info? ty).map (·.size) = some n) (hn' : c'.size = n) (hl : o + c'.size ≤ c.size) (h1 : c'.all (·.oneCell') = true) :
    (Instr.storeAt ty (.pointer (some ⟨b, o, none⟩)) (.agg c')).run Try.prog w = .ok () (w.setRow b (splO c o c')) := by
  have := run_storeCells_at (P := Try.prog) b o t c'.toList 0 c w h (by simpa using hl) (fun x hx => (Array.all_eq_true_iff_forall_mem.1 h1) x (by simpa using hx))
  cases hq : Try.prog.info? ty with
  | none => simp [hq] at hi
  | some i =>
    have hs : i.size = n := by simpa [hq] using hi
    simp only [Nat.add_zero] at this
    simp [Instr.storeAt, Instr.sureAddr, storeVar, sizeOf, typeInfo, hq, Value.cells, hs, hn', this, splO]
section
variable {ops : Array Oper} {rest : List Oper} {o : Oper} {a : Act} {bs : List Nat} {w0 w : World} {Q : Exit → Act → World → Prop} {L L' : List Ent} {b : Nat} {t : TypeId} {c c' : Array Value}
/-- A struct is stored into the middle of a block. -/
theorem st_storeOM {j n : Nat} (hS : St bs w0 w L) (hgd : o.guard = none) (ty : TypeId) (x y : Operand) (ho : o.op = .store ty x y) (hx : a.eval x = .pointer (some ⟨b, j, none⟩)) (hy : a.eval y = .agg c') (hi : (Try.prog.info? ty).map (·.size) = some n) (hn' : c'.size = n) {cn : Array Value} (hcn : splO c j c' = cn)
    (m : Upd L b t c cn L') (hl : j + c'.size ≤ c.size) (h1 : c'.all (·.oneCell') = true)
    (h : ∀ w', St bs w0 w' L' → wpList Try.prog ops Q rest (a.put o.dst undef) w') : wpList Try.prog ops Q (o :: rest) a w :=
  wpList_plain hgd fun K hK => by
    subst hcn
    have hl' := (hS.get m.at_).storeO hi hn' hl h1
    unfold Oper.wp execOp
    simp only [ho, hx, hy, Sem.run_bind, hl', Result.andThen_ok, Sem.run_pure]
    exact hK _ _ (h _ (hS.upd m (Only.setRow _ _ _) ((hS.get m.at_).row _)))
end
section
variable {ops : Array Oper} {rest : List Oper} {o : Oper} {a : Act} {w : World} {Q : Exit → Act → World → Prop}
/-- Two texts, one behind the other. -/
theorem st_addS {s t : ByteArray} (hgd : o.guard = none) (ty : TypeId) (x y : Operand) (yt : TypeId) (ho : o.op = .binOp .add ty x y yt) (hx : a.eval x = .string s) (hy : a.eval y = .string t) (hm : s.size + t.size ≤ 100000000)
    (h : wpList Try.prog ops Q rest (a.put o.dst (.string (s ++ t))) w) : wpList Try.prog ops Q (o :: rest) a w :=
  wpList_plain hgd fun K hK => by
    have h1 : ¬ (s.size + t.size > maxLen) := by unfold maxLen; omega
    have h2 : (s.size : Int) + (t.size : Int) ≤ 9223372036854775807 := by omega
    have hr : (execOp a.eval o).run Try.prog w = .ok (.value (.string (s ++ t))) w := by
      unfold execOp; simp only [ho, hx, hy]; show Sem.run _ _ w = _; simp [eqGuard, binOp, Op.stringOp, h1]; try exact h2
    unfold Oper.wp
    rw [hr]
    exact hK _ _ h
end
theorem dig_cut (n : Nat) (hn : n < 10) : (⟨#[48, 49, 50, 51, 52, 53, 54, 55, 56, 57, 97, 98, 99, 100, 101, 102]⟩ : ByteArray).extract n (n + 1) = strB [48 + n] := by
  have all : ∀ n : Fin 10, (⟨#[48, 49, 50, 51, 52, 53, 54, 55, 56, 57, 97, 98, 99, 100, 101, 102]⟩ : ByteArray).extract n.val (n.val + 1) = strB [48 + n.val] := by decide +kernel
  exact all ⟨n, hn⟩
theorem rdig_one (n : Nat) (hn : n < 10) (w : World) : Calls Try.prog 40 #[.int .i64 (n : Int)] w fun e w' => e = .returned (.string (strB [48 + n])) ∧ w = w' := by
  have H := Lib.hid (dig_cut n hn)
  have d1 : ¬ (9 : Int) < (n : Int) := by omega
  have e1 : n % 10 = n := Nat.mod_eq_of_lt hn
  have d2 : (n : Int) % 10 = (n : Int) := by omega
  go_enter Try.func40, Try.ntmps40
  go_wp2
  go_ret
  exact ⟨by rw [H.out]; rfl, rfl⟩
theorem rdig_two (n : Nat) (h : 10 ≤ n) (hn : n < 100) (w : World) : Calls Try.prog 40 #[.int .i64 (n : Int)] w fun e w' => e = .returned (.string (strB [48 + n / 10, 48 + n % 10])) ∧ w = w' := by
  obtain ⟨q, hq⟩ : ∃ q, q = n / 10 := ⟨_, rfl⟩
  obtain ⟨r, hr⟩ : ∃ r, r = n % 10 := ⟨_, rfl⟩
  have hq10 : q < 10 := by omega
  have hr10 : r < 10 := by omega
  have H := Lib.hid (dig_cut r hr10)
  have HE := Lib.hid (strB_append [48 + q] [48 + r])
  rw [← hq, ← hr]
  have d1 : (9 : Int) < (n : Int) := by omega
  have d2 : (n : Int) % 10 = (r : Int) := by omega
  have d3 : (n : Int) / 10 = (q : Int) := by omega
  clear hq hr
  go_enter Try.func40, Try.ntmps40
  have HSZ := Lib.hid (show (strB [48 + q]).size + ((⟨#[48, 49, 50, 51, 52, 53, 54, 55, 56, 57, 97, 98, 99, 100, 101, 102]⟩ : ByteArray).extract r (r + 1)).size ≤ 100000000 by rw [H.out, strB_size, strB_size]; simp)
  go_wp2_with (first
    | (go_at_call 40; refine (rdig_one q hq10 _).mono ?_; rintro e w' ⟨rfl, rfl⟩)
    | (refine st_addS (s := strB [48 + q]) (t := (⟨#[48, 49, 50, 51, 52, 53, 54, 55, 56, 57, 97, 98, 99, 100, 101, 102]⟩ : ByteArray).extract r (r + 1)) rfl _ _ _ _ rfl rfl rfl HSZ.out ?_))
  go_ret
  exact ⟨by rw [H.out, HE.out]; rfl, rfl⟩
theorem rdig_any (n : Nat) (hn : n < 100) (w : World) : Calls Try.prog 40 #[.int .i64 (n : Int)] w fun e w' => e = .returned (.string (strB (digN n))) ∧ w = w' := by
  unfold digN
  by_cases h : n < 10
  · rw [if_pos h]; exact rdig_one n h w
  · rw [if_neg h]; exact rdig_two n (by omega) hn w
/-- An instruction as the document's struct. -/
def infR (x : Nat) (r : List Nat × Nat × Nat × Nat) (l : List Nat) : Array Value := #[.int .u8 (x : Int), .string (strB l), .int .i64 (r.2.1 : Int), .int .i64 (r.2.2.1 : Int), .int .i64 (r.2.2.2 : Int)]
def infZ : Array Value := #[.int .u8 0, .string ⟨#[]⟩, .int .i64 0, .int .i64 0, .int .i64 0]
/-- What the document's table has for a byte. -/
def inf (x : Nat) : Array Value := if nm x = [] then infZ else infR x (ins x) (nm x)
/-- What PUSH, DUP, SWAP, LOG have for a byte. -/
def rng (x : Nat) : Array Value := if num x = none then infZ else inf x
theorem inf_size (x : Nat) : (inf x).size = 5 := by unfold inf; split <;> rfl
theorem rng_size (x : Nat) : (rng x).size = 5 := by unfold rng; split; rfl; exact inf_size x
theorem infZ_one : infZ.all (·.oneCell') = true := by simp [infZ, Value.oneCell']
theorem infR_one (x : Nat) (r : List Nat × Nat × Nat × Nat) (l : List Nat) : (infR x r l).all (·.oneCell') = true := by simp [infR, Value.oneCell']
theorem inf_one (x : Nat) : (inf x).all (·.oneCell') = true := by unfold inf; split; exact infZ_one; exact infR_one _ _ _
theorem rng_one (x : Nat) : (rng x).all (·.oneCell') = true := by unfold rng; split; exact infZ_one; exact inf_one x
theorem inf_typeS : (Try.prog.underlying 51).map (fun d => match d with | .struct _ => true | _ => false) = some true := by kernel_rfl
theorem inf_type : ∃ fs, Try.prog.underlying 51 = some (.struct fs) := by
  have h := inf_typeS
  cases hq : Try.prog.underlying 51 with
  | none => rw [hq] at h; cases h
  | some d =>
    rw [hq] at h
    cases d <;> first | exact ⟨_, rfl⟩ | simp at h
theorem inf_zero : (Try.prog.info? 51).bind (·.zero) = some (.agg infZ) := by kernel_rfl
theorem inf_tsize : (Try.prog.info? 51).map (·.size) = some 5 := by kernel_rfl
theorem inf_agg (w : World) : (isAgg 51).run Try.prog w = .ok true w := by kernel_rfl
theorem inf_sizeOf (w : World) : (sizeOf 51).run Try.prog w = .ok 5 w := by kernel_rfl
theorem nm_num : ∀ x : Fin 256, num x.val ≠ none → nm x.val ≠ [] := by decide +kernel
def RngPost (x : Nat) (w : World) (e : Ending) (w' : World) : Prop := ∃ t, e = .returned (.tuple #[.agg (rng x), .bool t]) ∧ Tch [] w w'
end Go.Proofs.Ytjbjjiibldlipaa
