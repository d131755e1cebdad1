/- The instructions as mathematics: what each byte is, its name, what it takes and puts, its gas. -/
import Derived.Test.YtjbjjiibldlipaaO1
namespace Go.Proofs.Ytjbjjiibldlipaa
open Go.RowKit

/-- The instructions that have a row alone. -/
def opTab : List (Nat × List Nat × Nat × Nat × Nat) := [
  (0, [83, 84, 79, 80], 0, 0, 0),
  (1, [65, 68, 68], 2, 1, 3),
  (2, [77, 85, 76], 2, 1, 5),
  (3, [83, 85, 66], 2, 1, 3),
  (4, [68, 73, 86], 2, 1, 5),
  (5, [83, 68, 73, 86], 2, 1, 5),
  (6, [77, 79, 68], 2, 1, 5),
  (7, [83, 77, 79, 68], 2, 1, 5),
  (8, [65, 68, 68, 77, 79, 68], 3, 1, 8),
  (9, [77, 85, 76, 77, 79, 68], 3, 1, 8),
  (10, [69, 88, 80], 2, 1, 10),
  (11, [83, 73, 71, 78, 69, 88, 84, 69, 78, 68], 2, 1, 5),
  (16, [76, 84], 2, 1, 3),
  (17, [71, 84], 2, 1, 3),
  (18, [83, 76, 84], 2, 1, 3),
  (19, [83, 71, 84], 2, 1, 3),
  (20, [69, 81], 2, 1, 3),
  (21, [73, 83, 90, 69, 82, 79], 1, 1, 3),
  (22, [65, 78, 68], 2, 1, 3),
  (23, [79, 82], 2, 1, 3),
  (24, [88, 79, 82], 2, 1, 3),
  (25, [78, 79, 84], 1, 1, 3),
  (26, [66, 89, 84, 69], 2, 1, 3),
  (27, [83, 72, 76], 2, 1, 3),
  (28, [83, 72, 82], 2, 1, 3),
  (29, [83, 65, 82], 2, 1, 3),
  (32, [75, 69, 67, 67, 65, 75, 50, 53, 54], 2, 1, 30),
  (48, [65, 68, 68, 82, 69, 83, 83], 0, 1, 2),
  (49, [66, 65, 76, 65, 78, 67, 69], 1, 1, 700),
  (50, [79, 82, 73, 71, 73, 78], 0, 1, 2),
  (51, [67, 65, 76, 76, 69, 82], 0, 1, 2),
  (52, [67, 65, 76, 76, 86, 65, 76, 85, 69], 0, 1, 2),
  (53, [67, 65, 76, 76, 68, 65, 84, 65, 76, 79, 65, 68], 1, 1, 3),
  (54, [67, 65, 76, 76, 68, 65, 84, 65, 83, 73, 90, 69], 0, 1, 2),
  (55, [67, 65, 76, 76, 68, 65, 84, 65, 67, 79, 80, 89], 3, 0, 3),
  (56, [67, 79, 68, 69, 83, 73, 90, 69], 0, 1, 2),
  (57, [67, 79, 68, 69, 67, 79, 80, 89], 3, 0, 3),
  (59, [69, 88, 84, 67, 79, 68, 69, 83, 73, 90, 69], 1, 1, 700),
  (60, [69, 88, 84, 67, 79, 68, 69, 67, 79, 80, 89], 4, 0, 700),
  (61, [82, 69, 84, 85, 82, 78, 68, 65, 84, 65, 83, 73, 90, 69], 0, 1, 2),
  (62, [82, 69, 84, 85, 82, 78, 68, 65, 84, 65, 67, 79, 80, 89], 3, 0, 3),
  (63, [69, 88, 84, 67, 79, 68, 69, 72, 65, 83, 72], 1, 1, 700),
  (65, [67, 79, 73, 78, 66, 65, 83, 69], 0, 1, 2),
  (66, [84, 73, 77, 69, 83, 84, 65, 77, 80], 0, 1, 2),
  (67, [78, 85, 77, 66, 69, 82], 0, 1, 2),
  (69, [71, 65, 83, 76, 73, 77, 73, 84], 0, 1, 2),
  (70, [67, 72, 65, 73, 78, 73, 68], 0, 1, 2),
  (71, [83, 69, 76, 70, 66, 65, 76, 65, 78, 67, 69], 0, 1, 5),
  (80, [80, 79, 80], 1, 0, 2),
  (81, [77, 76, 79, 65, 68], 1, 1, 3),
  (82, [77, 83, 84, 79, 82, 69], 2, 0, 3),
  (83, [77, 83, 84, 79, 82, 69, 56], 2, 0, 3),
  (84, [83, 76, 79, 65, 68], 1, 1, 800),
  (85, [83, 83, 84, 79, 82, 69], 2, 0, 0),
  (86, [74, 85, 77, 80], 1, 0, 8),
  (87, [74, 85, 77, 80, 73], 2, 0, 10),
  (88, [80, 67], 0, 1, 2),
  (89, [77, 83, 73, 90, 69], 0, 1, 2),
  (90, [71, 65, 83], 0, 1, 2),
  (91, [74, 85, 77, 80, 68, 69, 83, 84], 0, 0, 1),
  (95, [80, 85, 83, 72, 48], 0, 1, 2),
  (240, [67, 82, 69, 65, 84, 69], 3, 1, 32000),
  (241, [67, 65, 76, 76], 7, 1, 700),
  (243, [82, 69, 84, 85, 82, 78], 2, 0, 0),
  (244, [68, 69, 76, 69, 71, 65, 84, 69, 67, 65, 76, 76], 6, 1, 700),
  (245, [67, 82, 69, 65, 84, 69, 50], 4, 1, 32000),
  (250, [83, 84, 65, 84, 73, 67, 67, 65, 76, 76], 6, 1, 700),
  (253, [82, 69, 86, 69, 82, 84], 2, 0, 0),
  (255, [83, 69, 76, 70, 68, 69, 83, 84, 82, 85, 67, 84], 1, 0, 5000)]
def opRow (x : Nat) : List Nat × Nat × Nat × Nat := match opTab.find? (fun r => r.1 == x) with | some r => r.2 | none => ([], 0, 0, 0)
def ins (x : Nat) : List Nat × Nat × Nat × Nat :=
  if 96 ≤ x ∧ x ≤ 127 then ([80, 85, 83, 72], 0, 1, 3) else if 128 ≤ x ∧ x ≤ 143 then ([68, 85, 80], x - 127, x - 126, 3) else if 144 ≤ x ∧ x ≤ 159 then ([83, 87, 65, 80], x - 142, x - 142, 3) else if 160 ≤ x ∧ x ≤ 164 then ([76, 79, 71], x - 158, 0, 375 * (x - 159)) else opRow x
/-- The number behind a name. -/
def num (x : Nat) : Option Nat :=
  if 96 ≤ x ∧ x ≤ 127 then some (x - 95) else if 128 ≤ x ∧ x ≤ 143 then some (x - 127) else if 144 ≤ x ∧ x ≤ 159 then some (x - 143) else if 160 ≤ x ∧ x ≤ 164 then some (x - 160) else none
def numI (x : Nat) : Int := match num x with | some n => (n : Int) | none => -1
def digN (n : Nat) : List Nat := if n < 10 then [48 + n] else [48 + n / 10, 48 + n % 10]
def digs : Option Nat → List Nat
  | some n => digN n
  | none => []
def nm (x : Nat) : List Nat := (ins x).1 ++ digs (num x)
/-- A row as the program's struct. -/
def rowA (r : List Nat × Nat × Nat × Nat) : Array Value := #[.string (strB r.1), .int .i64 (r.2.1 : Int), .int .i64 (r.2.2.1 : Int), .int .i64 (r.2.2.2 : Int)]
def tabA : Array Value := ((List.range 256).flatMap fun i => (rowA (opRow i)).toList).toArray
theorem flat_get {m : Nat} {f : Nat → List Value} (hf : ∀ i, (f i).length = m) : ∀ (n i : Nat), i < n → (((List.range n).flatMap f).drop (i * m)).take m = f i
  | n + 1, i, h => by
    rw [List.range_succ, List.flatMap_append]
    have hlen : ((List.range n).flatMap f).length = n * m := by
      clear h
      induction n with
      | zero => simp
      | succ n ih => rw [List.range_succ, List.flatMap_append, List.length_append, ih]; simp [hf]; rw [Nat.succ_mul]
    by_cases hi : i < n
    · have h1 : i * m + m ≤ n * m := by rw [← Nat.succ_mul]; exact Nat.mul_le_mul_right _ hi
      rw [List.drop_append_of_le_length (by omega), List.take_append_of_le_length (by rw [List.length_drop]; omega)]
      exact flat_get hf n i hi
    · obtain rfl : i = n := by omega
      rw [List.drop_append, hlen, Nat.sub_self, List.drop_zero, List.drop_eq_nil_of_le (by omega)]
      simp [← hf i]
theorem flat_len {m : Nat} {f : Nat → List Value} (hf : ∀ i, (f i).length = m) (n : Nat) : ((List.range n).flatMap f).length = n * m := by
  induction n with
  | zero => simp
  | succ n ih => rw [List.range_succ, List.flatMap_append, List.length_append, ih]; simp [hf]; rw [Nat.succ_mul]
theorem tabA_get (i : Nat) (h : i < 256) : ((tabA.toList.drop (i * 4)).take 4).toArray = rowA (opRow i) := by
  show (((List.range 256).flatMap fun i => (rowA (opRow i)).toList).drop (i * 4) |>.take 4).toArray = _
  rw [flat_get (m := 4) (f := fun i => (rowA (opRow i)).toList) (fun i => rfl) 256 i h, Array.toArray_toList]
theorem tabA_size : tabA.size = 1024 := by
  show ((List.range 256).flatMap fun i => (rowA (opRow i)).toList).length = 1024
  rw [flat_len (m := 4) (fun i => rfl)]
theorem rowA_size (r : List Nat × Nat × Nat × Nat) : (rowA r).size = 4 := rfl
theorem rowA_one (r : List Nat × Nat × Nat × Nat) : (rowA r).all (·.oneCell') = true := by simp [rowA, Value.oneCell']
/-- A text as a number. -/
def code (l : List Nat) : Nat := l.foldl (fun n x => n * 256 + x) 0
theorem ins_bounds : ∀ x : Fin 256, (ins x.val).2.1 ≤ 17 ∧ (ins x.val).2.2.1 ≤ 17 ∧ (nm x.val = [] → (ins x.val).2.1 = 0 ∧ (ins x.val).2.2.1 = 0 ∧ (ins x.val).2.2.2 = 0) ∧ (ins x.val).2.2.2 ≤ 40000 ∧ (nm x.val).length ≤ 20 := by decide +kernel
theorem nm_lt : ∀ x : Fin 256, ∀ y ∈ nm x.val, y < 256 := by decide +kernel
theorem nm_named : ((List.range 256).map nm).filter (fun l => l != []) = (((List.range 256).filter fun x => nm x != [])).map nm := by rw [List.filter_map]; rfl
theorem nm_codes : (((List.range 256).filter fun x => nm x != []).map fun x => code (nm x)).Nodup := by decide +kernel
theorem nm_count : ((List.range 256).filter fun x => nm x != []).length = 138 := by decide +kernel
theorem nm_stem : ∀ x : Fin 256, ((ins x.val).1 = []) = (nm x.val = []) := by
  intro x
  have : ∀ x : Fin 256, ((ins x.val).1 = []) ↔ (nm x.val = []) := by decide +kernel
  exact propext (this x)
end Go.Proofs.Ytjbjjiibldlipaa
