/- The plain mathematics of numbers as rows of 16 bits, and slices that hold them. -/
import Derived.Test.YtcdjinjeogodfaaJ6
import Derived.Test.YtcdjinjeogodfaaRM2
import Derived.Test.YtcdjinjeogodfaaR2
import Derived.Laws.MakeOwn
namespace Go.Proofs.Ytcdjinjeogodfaa
open Go.RowKit

/-- The digit of x with the number i, to the base 65536. -/
def dg (x i : Nat) : Nat := x / 2 ^ (16 * i) % 65536
theorem dg_lt (x i : Nat) : dg x i < 65536 := Nat.mod_lt _ (by decide)
def rf (n : Nat) (f : Nat → Nat) : Array Value := ((List.range n).map fun i => Value.int .i64 ((f i : Nat) : Int)).toArray
abbrev rowd (n x : Nat) : Array Value := rf n (dg x)
theorem rf_size (n : Nat) (f : Nat → Nat) : (rf n f).size = n := by simp [rf]
theorem rf_get {n i : Nat} {f : Nat → Nat} (h : i < n) : (rf n f)[i]? = some (.int .i64 ((f i : Nat) : Int)) := by simp [rf, h]
theorem rf_one (n : Nat) (f : Nat → Nat) : (rf n f).all (·.oneCell') = true := by
  rw [Array.all_eq_true_iff_forall_mem]
  intro v hv
  simp only [rf, List.mem_toArray, List.mem_map] at hv
  obtain ⟨i, _, rfl⟩ := hv
  rfl
theorem rf_congr {n : Nat} {f g : Nat → Nat} (h : ∀ i, i < n → f i = g i) : rf n f = rf n g := by
  unfold rf
  congr 1
  apply List.map_congr_left
  intro i hi
  rw [h i (by simpa using hi)]
theorem rf_set {n k v : Nat} {f : Nat → Nat} (h : k < n) : (rf n f).setIfInBounds k (.int .i64 (v : Int)) = rf n (fun i => if i = k then v else f i) := by
  apply Array.ext_getElem?
  intro i
  rw [Array.getElem?_setIfInBounds]
  by_cases hi : i < n
  · rw [rf_get (f := fun i => if i = k then v else f i) hi]
    by_cases hk : k = i
    · subst hk; rw [if_pos rfl, if_pos (by rw [rf_size]; exact h)]; simp
    · rw [if_neg hk, rf_get hi, if_neg (fun e => hk e.symm)]
  · have h1 : (rf n f)[i]? = none := Array.getElem?_eq_none (by rw [rf_size]; omega)
    have h2 : (rf n (fun i => if i = k then v else f i))[i]? = none := Array.getElem?_eq_none (by rw [rf_size]; omega)
    rw [h1, h2, if_neg (by omega)]
theorem dg_mod_lo {x k i : Nat} (h : i < k) : dg (x % 2 ^ (16 * k)) i = dg x i := by
  unfold dg
  rw [show 16 * k = 16 * i + (16 + 16 * (k - i - 1)) by omega, Nat.pow_add, Nat.mod_mul_right_div_self, Nat.pow_add, Nat.mod_mul_right_mod]
theorem dg_hi {x k i : Nat} (hx : x < 2 ^ (16 * k)) (h : k ≤ i) : dg x i = 0 := by
  unfold dg
  rw [Nat.div_eq_of_lt (Nat.lt_of_lt_of_le hx (Nat.pow_le_pow_right (by decide) (by omega)))]
theorem row_mod (n x : Nat) : rowd n (x % 2 ^ (16 * n)) = rowd n x := rf_congr fun _ hi => dg_mod_lo hi
theorem row_step {n x k : Nat} (hk : k < n) {v : Int} (hv : v = ((dg x k : Nat) : Int)) : (rowd n (x % 2 ^ (16 * k))).setIfInBounds k (.int .i64 v) = rowd n (x % 2 ^ (16 * (k + 1))) := by
  rw [hv, rf_set hk]
  refine rf_congr fun i hi => ?_
  by_cases h : i = k
  · rw [if_pos h, h, dg_mod_lo (by omega)]
  · rw [if_neg h]
    by_cases h1 : i < k
    · rw [dg_mod_lo h1, dg_mod_lo (by omega)]
    · rw [dg_hi (Nat.mod_lt _ (Nat.two_pow_pos _)) (by omega), dg_hi (Nat.mod_lt _ (Nat.two_pow_pos _)) (by omega)]
theorem row_zero_mod (n x : Nat) : rowd n (x % 2 ^ (16 * 0)) = rowd n 0 := by simp [Nat.mod_one]
theorem dg_bytes (x k : Nat) (hk : k < 16) : byt x (30 - 2 * k) * 256 + byt x (31 - 2 * k) = dg x k := by
  unfold byt dg
  rw [show 8 * (31 - (30 - 2 * k)) = 16 * k + 8 by omega, show 8 * (31 - (31 - 2 * k)) = 16 * k by omega, Nat.pow_add, ← Nat.div_div_eq_div_mul]
  generalize x / 2 ^ (16 * k) = y
  rw [show 2 ^ 8 = 256 by rfl]
  omega
theorem byt_lo (x k : Nat) (hk : k < 16) : byt x (31 - 2 * k) = dg x k % 256 := by
  have := dg_bytes x k hk
  have := byt_lt x (31 - 2 * k)
  omega
theorem byt_hi (x k : Nat) (hk : k < 16) : byt x (30 - 2 * k) = dg x k / 256 := by
  have := dg_bytes x k hk
  have := byt_lt x (31 - 2 * k)
  omega
theorem dg_split (x i : Nat) : x / 2 ^ (16 * i) = x / 2 ^ (16 * (i + 1)) * 65536 + dg x i := by
  unfold dg
  rw [show 16 * (i + 1) = 16 * i + 16 by omega, Nat.pow_add, ← Nat.div_div_eq_div_mul]
  generalize x / 2 ^ (16 * i) = y
  rw [show 2 ^ 16 = 65536 by rfl]
  omega
theorem mod_split (x i : Nat) : x % 2 ^ (16 * (i + 1)) = x % 2 ^ (16 * i) + 2 ^ (16 * i) * dg x i := by
  unfold dg
  rw [show 16 * (i + 1) = 16 * i + 16 by omega, Nat.pow_add, Nat.mod_mul]

/-- The first n cells of block b, which was there, are the digits of x. -/
def Row (w : World) (b n x : Nat) : Prop := b < w.heap.size ∧ ∀ i, i < n → w.cell? ⟨b, i, none⟩ = some (.int .i64 ((dg x i : Nat) : Int))
section
variable {w w' : World} {b n x : Nat}
theorem Row.at_ (h : Row w b n x) {i : Nat} (hi : i < n) : w.cell? ⟨b, i, none⟩ = some (.int .i64 ((dg x i : Nat) : Int)) := h.2 i hi
theorem Row.below (h : Row w b n x) {B : Nat} (hb : Below B w w') (hB : b < B) : Row w' b n x :=
  ⟨Nat.lt_of_lt_of_le h.1 hb.size, fun i hi => by rw [hb.cell (p := ⟨b, i, none⟩) hB]; exact h.2 i hi⟩
theorem Blk.row_ (h : Blk w b 3 (rowd n x)) : Row w b n x := ⟨h.lt, fun _ hi => h.cell (rf_get hi)⟩
theorem St.callNew {w0 : World} {L : List Ent} {t : TypeId} {c : Array Value} (h : St w0 w L) (hb : Below w.heap.size w w') (hB : Blk w' b t c) (hle : w.heap.size ≤ b) : St w0 w' ((b, t, c) :: L) :=
  let h' := h.call hb
  ⟨h'.below, fun e he => by
    rcases List.mem_cons.1 he with rfl | he
    · exact ⟨hB, Nat.le_trans h.below.size hle⟩
    · exact h'.blk e he, List.pairwise_cons.2 ⟨fun e he => Nat.ne_of_gt (Nat.lt_of_lt_of_le (h.blk e he).1.lt hle), h'.apart⟩⟩
end
theorem int3_agg (w : World) : (isAgg 3).run Try.prog w = .ok false w := by
  have hu : Try.prog.underlying 3 = some (.int .i64) := by kernel_rfl
  simp [isAgg, run_underlying hu]
theorem ints_type : Try.prog.underlying 48 = some (.slice 3) := by kernel_rfl
theorem int3_info : (Try.prog.info? 3).map (fun i => (i.zero, i.size, i.bytes)) = some (some (.int .i64 0), 1, 8) := by kernel_rfl
theorem made_row (n : Nat) : madeCells (Value.cells (.int .i64 0)) n = rowd n 0 := by
  apply Array.ext_getElem?
  intro i
  by_cases hi : i < n
  · rw [rf_get hi]
    simp [madeCells, Value.cells, hi, dg, Nat.mod_one]
  · rw [Array.getElem?_eq_none (by simp [madeCells]; omega), Array.getElem?_eq_none (by rw [rf_size]; omega)]
section
variable {ops : Array Oper} {rest : List Oper} {o : Oper} {a : Act} {w0 w : World} {Q : Exit → Act → World → Prop} {L : List Ent} {b : Nat} {t : TypeId} {c : Array Value}
/-- A rowd of integers is made. -/
theorem st_make (n : Nat) (hS : St w0 w L) (hgd : o.guard = none) (x y : Operand) (ho : o.op = .makeSlice 48 x y) (hx : a.eval x = .int .i64 (n : Int)) (hy : a.eval y = .int .i64 (n : Int)) (hn : n ≤ 1000)
    (h : ∀ w' b, St w0 w' ((b, 3, rowd n 0) :: L) → wpList Try.prog ops Q rest (a.put o.dst (.slice (some ⟨b, 0, none⟩) n n)) w') : wpList Try.prog ops Q (o :: rest) a w :=
  wpList_plain hgd fun K hK => by
    obtain ⟨i, hi, hz, hs, hb⟩ := info_parts int3_info
    have hr := run_makeSlice (P := Try.prog) w 48 3 i (.int .i64 0) ints_type hi hz .i64 .i64 n n (by omega) (by omega) (by rw [hs]; simp; omega) (by rw [hb]; omega) (by omega)
    rw [hs, Nat.mul_one, Int.toNat_natCast, made_row] at hr
    unfold Oper.wp execOp
    simp only [ho, hx, hy, Sem.run_bind, hr, Result.andThen_ok, Sem.run_pure]
    exact hK _ _ (h _ _ (hS.new 3 _))
/-- One cell is read that was there before the call. -/
theorem st_old {v : Value} {j : Nat} (hS : St w0 w L) (hgd : o.guard = none) (ty : TypeId) (x : Operand) (ho : o.op = .load ty x) (hx : a.eval x = .pointer (some ⟨b, j, none⟩)) (hv : b < w0.heap.size ∧ w0.cell? ⟨b, j, none⟩ = some v)
    (hu : ∀ w, (isAgg ty).run Try.prog w = .ok false w) (h : wpList Try.prog ops Q rest (a.put o.dst v) w) : wpList Try.prog ops Q (o :: rest) a w :=
  wpList_plain hgd fun K hK => by
    have hl : w.cell? ⟨b, j, none⟩ = some v := (hS.below.cell (p := ⟨b, j, none⟩) hv.1).trans hv.2
    unfold Oper.wp execOp
    simp only [ho, hx, Instr.loadAt, Instr.sureAddr, loadVar, Sem.run_bind, hu, Result.andThen_ok, Sem.run_pure, Bool.false_eq_true, if_false, run_load, hl]
    exact hK _ _ h
end
end Go.Proofs.Ytcdjinjeogodfaa
