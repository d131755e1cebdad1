/- Words held against each other: word.Cmp. -/
import Derived.Test.YtklpcppdjcedpaaN12
import Derived.Laws.Externs
import Derived.Lib.BytesEntry
namespace Go.Proofs.Ytklpcppdjcedpaa
open Go.RowKit
set_option linter.unusedVariables false
set_option linter.unusedSimpArgs false
set_option maxRecDepth 100000
/-- How two numbers stand to each other. -/
def cmpN (x y : Nat) : Int := if x < y then -1 else if y < x then 1 else 0

def bytesOf (x : Nat) : List UInt8 := (List.range 32).map fun i => UInt8.ofNat (byt x i)
/-- The number that a list of bytes spells, the highest first. -/
def val : List UInt8 → Nat
  | [] => 0
  | a :: l => a.toNat * 256 ^ l.length + val l

theorem q_val {o : Oper} {a : Act} {ops : Array Oper} {rest : List Oper} {C : World → Prop} {Q : Act → Prop} {v : Value} (hw : Region.wanted o (yielded ops a.tmps) = true) (xo : Operand) (ho : o.op = .move xo ∨ o.op = .assign xo) (hx : a.eval xo = v)
    (h : wpQuiet Try.prog ops C Q rest (a.put o.dst v)) : wpQuiet Try.prog ops C Q (o :: rest) a :=
  q_pure hw (fun w => by unfold execOp; rcases ho with ho | ho <;> simp only [ho, hx] <;> rfl) h
theorem val_lt : ∀ l : List UInt8, val l < 256 ^ l.length
  | [] => by simp [val]
  | a :: l => by
    have h := val_lt l
    have ha := a.toNat_lt
    unfold val
    rw [List.length_cons, Nat.pow_succ]
    have h1 : a.toNat * 256 ^ l.length ≤ 255 * 256 ^ l.length := Nat.mul_le_mul_right _ (by omega)
    omega
theorem compareBytes_val : ∀ l m : List UInt8, l.length = m.length → Lib.compareBytes l m = cmpN (val l) (val m)
  | [], [], _ => rfl
  | [], _ :: _, h => by simp at h
  | _ :: _, [], h => by simp at h
  | a :: l, b :: m, h => by
    have hl : l.length = m.length := by simpa using h
    have ih := compareBytes_val l m hl
    have h1 := val_lt l
    have h2 := val_lt m
    unfold Lib.compareBytes val
    rw [hl] at h1
    rw [ih, hl]
    clear ih
    generalize 256 ^ m.length = P at *
    by_cases hab : a < b
    · rw [if_pos hab]
      have : a.toNat + 1 ≤ b.toNat := UInt8.lt_iff_toNat_lt.1 hab
      have h3 : (a.toNat + 1) * P ≤ b.toNat * P := Nat.mul_le_mul_right _ this
      rw [Nat.add_mul] at h3
      unfold cmpN
      rw [if_pos (by omega)]
    · rw [if_neg hab]
      by_cases hba : b < a
      · rw [if_pos hba]
        have : b.toNat + 1 ≤ a.toNat := UInt8.lt_iff_toNat_lt.1 hba
        have h3 : (b.toNat + 1) * P ≤ a.toNat * P := Nat.mul_le_mul_right _ this
        rw [Nat.add_mul] at h3
        unfold cmpN
        rw [if_neg (by omega), if_pos (by omega)]
      · rw [if_neg hba]
        have h3 : ¬ a.toNat < b.toNat := fun h => hab (UInt8.lt_iff_toNat_lt.2 h)
        have h4 : ¬ b.toNat < a.toNat := fun h => hba (UInt8.lt_iff_toNat_lt.2 h)
        have h5 : a.toNat = b.toNat := by omega
        rw [h5]
        unfold cmpN
        simp only [Nat.add_lt_add_iff_left]
theorem val_range (x : Nat) : ∀ n, val ((List.range n).map fun i => UInt8.ofNat (x / 256 ^ (n - 1 - i) % 256)) = x % 256 ^ n
  | 0 => by simp [val, Nat.mod_one]
  | n + 1 => by
    have ih := val_range x n
    rw [List.range_succ_eq_map, List.map_cons, List.map_map]
    have e : ((fun i => UInt8.ofNat (x / 256 ^ (n + 1 - 1 - i) % 256)) ∘ Nat.succ) = fun i => UInt8.ofNat (x / 256 ^ (n - 1 - i) % 256) := by
      funext i
      simp only [Function.comp]
      rw [show n + 1 - 1 - i.succ = n - 1 - i by omega]
    rw [e]
    unfold val
    rw [ih, List.length_map, List.length_range, Nat.pow_succ, Nat.mod_mul]
    have : (UInt8.ofNat (x / 256 ^ (n + 1 - 1 - 0) % 256)).toNat = x / 256 ^ n % 256 := by
      rw [show n + 1 - 1 - 0 = n by omega]
      simp
    rw [this, Nat.mul_comm]
    omega
theorem val_word {x : Nat} (hx : x < M256) : val (bytesOf x) = x := by
  have h := val_range x 32
  have e : bytesOf x = (List.range 32).map fun i => UInt8.ofNat (x / 256 ^ (32 - 1 - i) % 256) := by
    unfold bytesOf
    apply List.map_congr_left
    intro i _
    unfold byt
    rw [Nat.pow_mul]
  rw [e, h]
  exact Nat.mod_eq_of_lt hx
theorem bytesOf_len (x : Nat) : (bytesOf x).length = 32 := by simp [bytesOf]
theorem compare_word {x y : Nat} (hx : x < M256) (hy : y < M256) : Lib.compareBytes (bytesOf x) (bytesOf y) = cmpN x y := by
  rw [compareBytes_val _ _ (by rw [bytesOf_len, bytesOf_len]), val_word hx, val_word hy]
theorem load_word {w : World} {b x : Nat} {t : TypeId} (h : Blk w b t (wcells x)) (P : Program) : (Extern.Bytes.loadBytes ⟨b, 0, none⟩ 32 .empty).run P w = .ok ⟨(bytesOf x).toArray⟩ w := by
  have hl := Lib.run_loadBytesX (P := P) w ((List.range 32).map fun i => ((byt x i : Nat) : Int)) ⟨b, 0, none⟩ .empty (fun j v hj => by
    have hj' : j < 32 := by
      have := (List.getElem?_eq_some_iff.1 hj).1
      simpa using this
    have e : (⟨b, 0, none⟩ : Addr).add j = ⟨b, j, none⟩ := by unfold Addr.add; split <;> simp_all
    rw [e, h.cell (wf_get hj')]
    simp [hj'] at hj
    rw [hj])
  rw [show ((List.range 32).map fun i => ((byt x i : Nat) : Int)).length = 32 by simp] at hl
  rw [hl]
  refine congrArg (fun z => Result.ok z w) ?_
  apply ByteArray.ext
  show (#[] : Array UInt8) ++ (Lib.bytesOf ((List.range 32).map fun i => ((byt x i : Nat) : Int))).toArray = (bytesOf x).toArray
  rw [Array.empty_append]
  refine congrArg List.toArray ?_
  unfold Lib.bytesOf bytesOf
  rw [List.map_map]
  rfl
theorem run_compare {w : World} {b b' x y c c' : Nat} {t t' : TypeId} (h : Blk w b t (wcells x)) (h' : Blk w b' t' (wcells y)) (hx : x < M256) (hy : y < M256) :
    (callFunc 57 #[.slice (some ⟨b, 0, none⟩) 32 c, .slice (some ⟨b', 0, none⟩) 32 c']).run Try.prog w = .ok (.value (.int .i64 (cmpN x y))) w := by
  rw [run_callFunc_extern Try.func57 (by kernel_rfl) (by kernel_rfl) (by kernel_rfl) (e := Extern.BytealgCompare.compare) (by kernel_rfl)]
  have e : (Extern.BytealgCompare.compare #[.slice (some ⟨b, 0, none⟩) 32 c, .slice (some ⟨b', 0, none⟩) 32 c']).run Try.prog w = .ok (.int .i64 (cmpN x y)) w := by
    change Sem.run Try.prog (do pure (goInt (Extern.BytealgCompare.cmp (← Extern.Bytes.loadBytes ⟨b, 0, none⟩ 32 .empty) (← Extern.Bytes.loadBytes ⟨b', 0, none⟩ 32 .empty)))) w = _
    simp only [Sem.run_bind, load_word h, load_word h', Result.andThen, Sem.run_pure]
    rw [Lib.cmp_eq]
    show Result.ok (goInt (Lib.compareBytes (bytesOf x) (bytesOf y))) w = _
    rw [compare_word hx hy]
    rfl
  rw [e]
  rfl
set_option maxHeartbeats 1000000 in
set_option maxRecDepth 100000 in
theorem Compare_any (x y b b' c c' : Nat) (t t' : TypeId) (hx : x < M256) (hy : y < M256) (w : World) (h : Blk w b t (wcells x)) (h' : Blk w b' t' (wcells y)) :
    Calls Try.prog 43 #[.slice (some ⟨b, 0, none⟩) 32 c, .slice (some ⟨b', 0, none⟩) 32 c'] w fun e w' => e = .returned (.int .i64 (cmpN x y)) ∧ Tch [] w w' := by
  have hr := run_compare (c := c) (c' := c') h h' hx hy
  clear h h' hx hy
  go_enter Try.func43, Try.ntmps43
  go_wp2
  go_ret
  exact ⟨rfl, Tch.refl _ _⟩
set_option maxHeartbeats 1000000 in
set_option maxRecDepth 100000 in
theorem Cmp_any (x y : Nat) (hx : x < M256) (hy : y < M256) (w : World) :
    Calls Try.prog 25 #[.agg (wcells x), .agg (wcells y)] w fun e w' => e = .returned (.int .i64 (cmpN x y)) ∧ Tch [] w w' := by
  have H := Lib.hid (And.intro hx hy)
  clear hx hy
  have hS := St.start w
  go_enter Try.func25, Try.ntmps25
  go_wp2_with (first | (refine st_box hS rfl _ _ rfl rfl ?_; clear hS; intro w1 b1 hS))
  refine wp_region_all (C := fun w' => St [] w w' _) (by kernel_rfl) (by kernel_rfl) hS.drew ?_
  repeat (refine wpQuiet_step (fun K hK => ?_); go_simp; first | (refine ⟨_, fun _ _ => rfl, hK _ ?_⟩; clear hK K) | (refine hK _ ?_; clear hK K) | (apply Exists.intro; refine ⟨fun w hw => ?_, hK _ ?_⟩; (go_at_call 43; exact q_of hw (Compare_any x y _ _ _ _ _ _ H.out.1 H.out.2 _ (hw.get (by repeat (first | with_reducible exact At.head | apply At.tail))) (hw.get (by repeat (first | with_reducible exact At.head | apply At.tail))))); clear hK K))
  refine wpQuiet_nil ?_
  clear hS
  intro w1 hS
  go_wp2
  go_ret
  exact ⟨rfl, hS.frame⟩
end Go.Proofs.Ytklpcppdjcedpaa
