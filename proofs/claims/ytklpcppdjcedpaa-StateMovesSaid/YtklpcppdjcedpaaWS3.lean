/- The document: numbers as rows of 16 bits. -/
import Derived.Test.YtklpcppdjcedpaaN12
import Derived.Test.YtklpcppdjcedpaaWS2
import Derived.Test.YtklpcppdjcedpaaN8
import Derived.Laws.MakeOwn
import Derived.StillTailTactics
import Derived.Deep.AppendLies
import Derived.Laws.OwnMore
namespace Go.Proofs.Ytklpcppdjcedpaa
open Go.RowKit
set_option linter.unusedVariables false
set_option linter.unusedSimpArgs false
set_option maxRecDepth 100000
theorem int_size : (Try.prog.info? 3).map (·.size) = some 1 := by kernel_rfl
theorem int_and65535 (n : Int) : bits BinOp.and IntKind.i64 n 65535 = n % 65536 := by
  have h127 : (BitVec.ofInt 64 65535).toNat = 2 ^ 16 - 1 := by decide
  have key : (BitVec.ofInt 64 n &&& BitVec.ofInt 64 65535).toNat = (n % ((2 ^ 64 : Nat) : Int)).toNat % 2 ^ 16 := by
    rw [BitVec.toNat_and, BitVec.toNat_ofInt, h127, Nat.and_two_pow_sub_one_eq_mod]
  show IntKind.i64.wrap ((BitVec.ofInt 64 n &&& BitVec.ofInt 64 65535).toNat : Nat) = n % 65536
  rw [key, IntKind.wrap_i64]
  omega
theorem St.le {w0 w : World} {L : List Ent} {b : Nat} {t : TypeId} {c : Array Value} (h : St [] w0 w L) (m : At L b t c) : w0.heap.size ≤ b := (h.own m).elim id (fun h => by simp at h)

/-- The digit of x with the number i, to the base 65536. -/
def dg (x i : Nat) : Nat := x / 2 ^ (16 * i) % 65536
theorem dg_lt (x i : Nat) : dg x i < 65536 := Nat.mod_lt _ (by decide)
def rf (n : Nat) (f : Nat → Nat) : Array Value := ((List.range n).map fun i => Value.int .i64 ((f i : Nat) : Int)).toArray
abbrev rowd (n x : Nat) : Array Value := rf n (dg x)
theorem rf_size (n : Nat) (f : Nat → Nat) : (rf n f).size = n := by simp [rf]
theorem rf_get {n i : Nat} {f : Nat → Nat} (h : i < n) : (rf n f)[i]? = some (.int .i64 ((f i : Nat) : Int)) := by simp [rf, h]
theorem rf_one (n : Nat) (f : Nat → Nat) : (rf n f).all (·.oneCell') = true := by
  rw [Array.all_eq_true_iff_forall_mem]
  intro v hv
  simp only [rf, List.mem_toArray, List.mem_map] at hv
  obtain ⟨i, _, rfl⟩ := hv
  rfl
theorem rf_congr {n : Nat} {f g : Nat → Nat} (h : ∀ i, i < n → f i = g i) : rf n f = rf n g := by
  unfold rf
  congr 1
  apply List.map_congr_left
  intro i hi
  rw [h i (by simpa using hi)]
theorem rf_set {n k v : Nat} {f : Nat → Nat} (h : k < n) : (rf n f).setIfInBounds k (.int .i64 (v : Int)) = rf n (fun i => if i = k then v else f i) := by
  apply Array.ext_getElem?
  intro i
  rw [Array.getElem?_setIfInBounds]
  by_cases hi : i < n
  · rw [rf_get (f := fun i => if i = k then v else f i) hi]
    by_cases hk : k = i
    · subst hk; rw [if_pos rfl, if_pos (by rw [rf_size]; exact h)]; simp
    · rw [if_neg hk, rf_get hi, if_neg (fun e => hk e.symm)]
  · have h1 : (rf n f)[i]? = none := Array.getElem?_eq_none (by rw [rf_size]; omega)
    have h2 : (rf n (fun i => if i = k then v else f i))[i]? = none := Array.getElem?_eq_none (by rw [rf_size]; omega)
    rw [h1, h2, if_neg (by omega)]
theorem dg_mod_lo {x k i : Nat} (h : i < k) : dg (x % 2 ^ (16 * k)) i = dg x i := by
  unfold dg
  rw [show 16 * k = 16 * i + (16 + 16 * (k - i - 1)) by omega, Nat.pow_add, Nat.mod_mul_right_div_self, Nat.pow_add, Nat.mod_mul_right_mod]
theorem dg_hi {x k i : Nat} (hx : x < 2 ^ (16 * k)) (h : k ≤ i) : dg x i = 0 := by
  unfold dg
  rw [Nat.div_eq_of_lt (Nat.lt_of_lt_of_le hx (Nat.pow_le_pow_right (by decide) (by omega)))]
theorem row_mod (n x : Nat) : rowd n (x % 2 ^ (16 * n)) = rowd n x := rf_congr fun _ hi => dg_mod_lo hi
theorem row_step {n x k : Nat} (hk : k < n) {v : Int} (hv : v = ((dg x k : Nat) : Int)) : (rowd n (x % 2 ^ (16 * k))).setIfInBounds k (.int .i64 v) = rowd n (x % 2 ^ (16 * (k + 1))) := by
  rw [hv, rf_set hk]
  refine rf_congr fun i hi => ?_
  by_cases h : i = k
  · rw [if_pos h, h, dg_mod_lo (by omega)]
  · rw [if_neg h]
    by_cases h1 : i < k
    · rw [dg_mod_lo h1, dg_mod_lo (by omega)]
    · rw [dg_hi (Nat.mod_lt _ (Nat.two_pow_pos _)) (by omega), dg_hi (Nat.mod_lt _ (Nat.two_pow_pos _)) (by omega)]
theorem row_zero_mod (n x : Nat) : rowd n (x % 2 ^ (16 * 0)) = rowd n 0 := by simp [Nat.mod_one]
theorem dg_bytes (x k : Nat) (hk : k < 16) : byt x (30 - 2 * k) * 256 + byt x (31 - 2 * k) = dg x k := by
  unfold byt dg
  rw [show 8 * (31 - (30 - 2 * k)) = 16 * k + 8 by omega, show 8 * (31 - (31 - 2 * k)) = 16 * k by omega, Nat.pow_add, ← Nat.div_div_eq_div_mul]
  generalize x / 2 ^ (16 * k) = y
  rw [show 2 ^ 8 = 256 by rfl]
  omega
theorem byt_lo (x k : Nat) (hk : k < 16) : byt x (31 - 2 * k) = dg x k % 256 := by
  have := dg_bytes x k hk
  have := byt_lt x (31 - 2 * k)
  omega
theorem byt_hi (x k : Nat) (hk : k < 16) : byt x (30 - 2 * k) = dg x k / 256 := by
  have := dg_bytes x k hk
  have := byt_lt x (31 - 2 * k)
  omega
theorem dg_split (x i : Nat) : x / 2 ^ (16 * i) = x / 2 ^ (16 * (i + 1)) * 65536 + dg x i := by
  unfold dg
  rw [show 16 * (i + 1) = 16 * i + 16 by omega, Nat.pow_add, ← Nat.div_div_eq_div_mul]
  generalize x / 2 ^ (16 * i) = y
  rw [show 2 ^ 16 = 65536 by rfl]
  omega
theorem mod_split (x i : Nat) : x % 2 ^ (16 * (i + 1)) = x % 2 ^ (16 * i) + 2 ^ (16 * i) * dg x i := by
  unfold dg
  rw [show 16 * (i + 1) = 16 * i + 16 by omega, Nat.pow_add, Nat.mod_mul]

/-- The first n cells of block b, which was there, are the digits of x. -/
def Row (w : World) (b n x : Nat) : Prop := b < w.heap.size ∧ ∀ i, i < n → w.cell? ⟨b, i, none⟩ = some (.int .i64 ((dg x i : Nat) : Int))
section
variable {w w' : World} {b n x : Nat}
theorem Row.at_ (h : Row w b n x) {i : Nat} (hi : i < n) : w.cell? ⟨b, i, none⟩ = some (.int .i64 ((dg x i : Nat) : Int)) := h.2 i hi
theorem Row.below (h : Row w b n x) {B : Nat} (hb : Below B w w') (hB : b < B) : Row w' b n x :=
  ⟨Nat.lt_of_lt_of_le h.1 hb.size, fun i hi => by rw [hb.cell (p := ⟨b, i, none⟩) hB]; exact h.2 i hi⟩
theorem Blk.row_ (h : Blk w b 3 (rowd n x)) : Row w b n x := ⟨h.lt, fun _ hi => h.cell (rf_get hi)⟩
end
theorem int3_agg (w : World) : (isAgg 3).run Try.prog w = .ok false w := by
  have hu : Try.prog.underlying 3 = some (.int .i64) := by kernel_rfl
  simp [isAgg, run_underlying hu]
theorem ints_type : Try.prog.underlying 103 = some (.slice 3) := by kernel_rfl
theorem int3_info : (Try.prog.info? 3).map (fun i => (i.zero, i.size, i.bytes)) = some (some (.int .i64 0), 1, 8) := by kernel_rfl
theorem made_row (n : Nat) : madeCells (Value.cells (.int .i64 0)) n = rowd n 0 := by
  apply Array.ext_getElem?
  intro i
  by_cases hi : i < n
  · rw [rf_get hi]
    simp [madeCells, Value.cells, hi, dg, Nat.mod_one]
  · rw [Array.getElem?_eq_none (by simp [madeCells]; omega), Array.getElem?_eq_none (by rw [rf_size]; omega)]
section
variable {ops : Array Oper} {rest : List Oper} {o : Oper} {a : Act} {w0 w : World} {Q : Exit → Act → World → Prop} {L : List Ent} {b : Nat} {t : TypeId} {c : Array Value}
/-- A rowd of integers is made. -/
theorem st_make (n : Nat) (hS : St [] w0 w L) (hgd : o.guard = none) (x y : Operand) (ho : o.op = .makeSlice 103 x y) (hx : a.eval x = .int .i64 (n : Int)) (hy : a.eval y = .int .i64 (n : Int)) (hn : n ≤ 1000)
    (h : ∀ w' b, St [] w0 w' ((b, 3, rowd n 0) :: L) → wpList Try.prog ops Q rest (a.put o.dst (.slice (some ⟨b, 0, none⟩) n n)) w') : wpList Try.prog ops Q (o :: rest) a w :=
  wpList_plain hgd fun K hK => by
    obtain ⟨i, hi, hz, hs, hb⟩ := info_parts int3_info
    have hr := run_makeSlice (P := Try.prog) w 103 3 i (.int .i64 0) ints_type hi hz .i64 .i64 n n (by omega) (by omega) (by rw [hs]; simp; omega) (by rw [hb]; omega) (by omega)
    rw [hs, Nat.mul_one, Int.toNat_natCast, made_row] at hr
    unfold Oper.wp execOp
    simp only [ho, hx, hy, Sem.run_bind, hr, Result.andThen_ok, Sem.run_pure]
    exact hK _ _ (h _ _ (hS.new 3 _))
/-- One cell is read that was there before the call. -/
theorem st_old {v : Value} {j : Nat} (hS : St [] w0 w L) (hgd : o.guard = none) (ty : TypeId) (x : Operand) (ho : o.op = .load ty x) (hx : a.eval x = .pointer (some ⟨b, j, none⟩)) (hv : b < w0.heap.size ∧ w0.cell? ⟨b, j, none⟩ = some v)
    (hu : ∀ w, (isAgg ty).run Try.prog w = .ok false w) (h : wpList Try.prog ops Q rest (a.put o.dst v) w) : wpList Try.prog ops Q (o :: rest) a w :=
  wpList_plain hgd fun K hK => by
    have hl : w.cell? ⟨b, j, none⟩ = some v := (hS.frame.cell (p := ⟨b, j, none⟩) hv.1 (by simp)).trans hv.2
    unfold Oper.wp execOp
    simp only [ho, hx, Instr.loadAt, Instr.sureAddr, loadVar, Sem.run_bind, hu, Result.andThen_ok, Sem.run_pure, Bool.false_eq_true, if_false, run_load, hl]
    exact hK _ _ h
end

theorem limb_or {x k : Nat} (hk : k < 16) : bits BinOp.or IntKind.i64 ((byt x (31 - 2 * k) : Nat) : Int) (((byt x (30 - 2 * k) : Nat) : Int) * 256) = ((dg x k : Nat) : Int) := by
  have h1 := byt_lt x (31 - 2 * k)
  have h2 := byt_lt x (30 - 2 * k)
  have h := dg_bytes x k hk
  generalize byt x (31 - 2 * k) = v1 at *
  generalize byt x (30 - 2 * k) = v2 at *
  have e := int_or_nat v1 (v2 * 256) (by omega) (by omega)
  rw [Nat.or_comm, show v2 * 256 ||| v1 = v2 * 256 + v1 from or_joined (k := 8) h1, h] at e
  rw [← e, Int.natCast_mul]; rfl
set_option maxHeartbeats 1000000 in
set_option maxRecDepth 100000 in
theorem limbs_any (x : Nat) (w : World) :
    Calls Try.prog 49 #[.agg (wcells x)] w fun e w' => ∃ b, e = .returned (.slice (some ⟨b, 0, none⟩) 16 16) ∧ w.heap.size ≤ b ∧ Blk w' b 3 (rowd 16 x) ∧ Tch [] w w' := by
  have hS := St.start w
  go_enter Try.func49, Try.ntmps49
  go_wp2_with (first | (refine st_box hS rfl _ _ rfl rfl ?_; clear hS; intro w1 b1 hS) | (refine st_make 16 hS rfl _ _ rfl rfl rfl (by omega) ?_; clear hS; intro w1 b3 hS))
  go_loopw [4] (fun i wr => ∃ k : Nat, k ≤ 16 ∧ i = .int .i64 k ∧ St [] w wr [(b3, 3, rowd 16 (x % 2 ^ (16 * k))), (b1, 25, wcells x)]) (fun i _ => 16 - (intOf i).toNat)
  case atStart => exact ⟨0, by omega, rfl, by rw [row_zero_mod]; exact hS⟩
  case round =>
    clear hS
    obtain ⟨k, hk, rfl, hS⟩ := hrel
    by_cases hlt : k < 16
    · have g1 := (hS.get (.tail .head)).cell (bc_get (n := 32) (f := byt x) (show 31 - 2 * k < 32 by omega))
      have g2 := (hS.get (.tail .head)).cell (bc_get (n := 32) (f := byt x) (show 30 - 2 * k < 32 by omega))
      have g3 := (hS.get .head).cell (rf_get (f := dg (x % 2 ^ (16 * k))) hlt)
      have f3 := (hS.get .head).free k
      have ho := limb_or (x := x) hlt
      have hst := row_step (n := 16) (x := x) hlt rfl
      obtain ⟨p, hp⟩ : ∃ p, p = 31 - 2 * k := ⟨_, rfl⟩
      obtain ⟨q, hq⟩ : ∃ q, q = 30 - 2 * k := ⟨_, rfl⟩
      have u1 : IntKind.i64.wrap (2 * (k : Int)) = 2 * (k : Int) := IntWalk.i64_in _ (by omega)
      have u2 : IntKind.i64.wrap (31 - 2 * (k : Int)) = (p : Int) := by rw [IntWalk.i64_in _ (by omega)]; omega
      have u3 : IntKind.i64.wrap (30 - 2 * (k : Int)) = (q : Int) := by rw [IntWalk.i64_in _ (by omega)]; omega
      have hp2 : p < 32 := by omega
      have hq2 : q < 32 := by omega
      have hp3 : (p : Int) < 32 := by omega
      have hq3 : (q : Int) < 32 := by omega
      have hk3 : (k : Int) < 16 := by omega
      rw [← hp] at g1 ho
      rw [← hq] at g2 ho
      have l1 := byt_lt x p
      have l2 := byt_lt x q
      generalize byt x p = v1 at *
      generalize byt x q = v2 at *
      have u4 : IntKind.i64.wrap ((v2 : Int) * 256) = (v2 : Int) * 256 := IntWalk.i64_in _ (by omega)
      have HO := Lib.hid (And.intro ho hst)
      clear ho hst hp hq
      have HSS := Lib.hid hS
      clear hS
      go_wp2
      go_still_tail 17, (by kernel_rfl)
      go_wp2
      go_roundw
      case rel =>
        have hS := HSS.out
        have hn := (hS.upd .head (Only.setCell wr ⟨b3, k, none⟩ (.int .i64 (bits BinOp.or IntKind.i64 (v1 : Int) ((v2 : Int) * 256)))) ((hS.get .head).set k _)).drew
        rw [HO.out.1, HO.out.2] at hn
        rw [HO.out.1]
        exact ⟨k + 1, by omega, by go_num, hn⟩
      case measure => simp [intOf]; omega
    · obtain rfl : k = 16 := by omega
      rw [row_mod] at hS
      go_wp2
      go_ret
      exact ⟨b3, rfl, hS.le .head, hS.get .head, hS.frame⟩

theorem cmp_lt {x y : Nat} (h : x < y) : cmpN x y = -1 := if_pos h
theorem cmp_gt {x y : Nat} (h : y < x) : cmpN x y = 1 := by unfold cmpN; rw [if_neg (by omega), if_pos h]
theorem cmp_eq {x y : Nat} (h : x = y) : cmpN x y = 0 := by unfold cmpN; rw [if_neg (by omega), if_neg (by omega)]
theorem lt_of_dg {x y j : Nat} (he : x / 2 ^ (16 * (j + 1)) = y / 2 ^ (16 * (j + 1))) (h : dg x j < dg y j) : x < y := by
  have h1 := dg_split x j
  have h2 := dg_split y j
  rw [he] at h1
  have h3 : x / 2 ^ (16 * j) < y / 2 ^ (16 * j) := by omega
  exact Nat.lt_of_not_le fun hle => by have := Nat.div_le_div_right (c := 2 ^ (16 * j)) hle; omega
theorem eq_of_dg {x y j : Nat} (he : x / 2 ^ (16 * (j + 1)) = y / 2 ^ (16 * (j + 1))) (h : dg x j = dg y j) : x / 2 ^ (16 * j) = y / 2 ^ (16 * j) := by
  rw [dg_split x j, dg_split y j, he, h]
set_option maxHeartbeats 1000000 in
set_option maxRecDepth 100000 in
theorem cmp_any (n m b1 b2 c1 c2 x y : Nat) (w : World) (hm : m ≤ n) (hn0 : 0 < n) (hn : n ≤ 64) (h1 : Row w b1 n x) (h2 : Row w b2 m y) (hx : x < 2 ^ (16 * n)) (hy : y < 2 ^ (16 * m)) :
    Calls Try.prog 48 #[.slice (some ⟨b1, 0, none⟩) n c1, .slice (some ⟨b2, 0, none⟩) m c2] w fun e w' => e = .returned (.int .i64 (cmpN x y)) ∧ w = w' := by
  have HX := Lib.hid (And.intro h1 (And.intro h2 (And.intro hx hy)))
  clear h1 h2 hx hy
  have hmn : decide (n < m) = false := by simp; omega
  go_enter Try.func48, Try.ntmps48
  go_wp2
  go_loop [6] (fun i => ∃ k : Nat, k ≤ n ∧ i = .int .i64 ((k : Int) - 1) ∧ Hid (x / 2 ^ (16 * k) = y / 2 ^ (16 * k))) (fun i => (intOf i + 1).toNat)
  case atStart =>
    refine ⟨n, by omega, rfl, Lib.hid ?_⟩
    rw [Nat.div_eq_of_lt HX.out.2.2.1, Nat.div_eq_of_lt (Nat.lt_of_lt_of_le HX.out.2.2.2 (Nat.pow_le_pow_right (by decide) (by omega)))]
  case round =>
    obtain ⟨k, hk, rfl, HK⟩ := hrel
    rcases Nat.eq_zero_or_pos k with h0 | h0
    · subst h0
      have he : x = y := by have := HK.out; simpa using this
      have HE := Lib.hid he
      clear he
      go_wp2
      go_ret
      exact ⟨ret_int (by rw [cmp_eq HE.out]), rfl⟩
    · obtain ⟨j, rfl⟩ : ∃ j, k = j + 1 := ⟨k - 1, by omega⟩
      have e0 : ((j + 1 : Nat) : Int) - 1 = (j : Int) := by omega
      rw [e0]
      clear e0
      have hjn : j < n := by omega
      have g1 := HX.out.1.at_ hjn
      have l1 := dg_lt x j
      have l2 := dg_lt y j
      have HL : dg x j < dg y j → x < y := lt_of_dg HK.out
      have HG : dg y j < dg x j → y < x := lt_of_dg HK.out.symm
      have HQ : dg x j = dg y j → Hid (x / 2 ^ (16 * j) = y / 2 ^ (16 * j)) := fun h => Lib.hid (eq_of_dg HK.out h)
      by_cases hjm : j < m
      · have g2 := HX.out.2.1.at_ hjm
        generalize dg x j = p at *
        generalize dg y j = q at *
        rcases Nat.lt_trichotomy p q with h | h | h
        · have hlt := HL h
          have hd : decide (p < q) = true := by simpa using h
          have H := Lib.hid hlt
          clear HL HG HQ hlt
          have hlt := H
          go_wp2
          go_ret
          exact ⟨ret_int (by rw [cmp_lt H.out]), rfl⟩
        · have HE := HQ h
          subst h
          clear HL HG HQ
          go_wp2
          go_round
          case rel => exact ⟨j, by omega, by congr 1, HE⟩
          case measure => simp [intOf]
        · have H := Lib.hid (HG h)
          have hd : decide (p < q) = false := by simp; omega
          have hd2 : decide (q < p) = true := by simpa using h
          clear HL HG HQ
          go_wp2
          go_ret
          exact ⟨ret_int (by rw [cmp_gt H.out]), rfl⟩
      · have hq : dg y j = 0 := dg_hi HX.out.2.2.2 (by omega)
        have hjm2 : decide (j < m) = false := by simpa using hjm
        rw [hq] at HL HG HQ
        clear hq l2
        generalize dg x j = p at *
        rcases Nat.eq_zero_or_pos p with h | h
        · have HE := HQ h
          subst h
          clear HL HG HQ
          go_wp2
          go_round
          case rel => exact ⟨j, by omega, by congr 1, HE⟩
          case measure => simp [intOf]
        · have H := Lib.hid (HG h)
          have hd : decide ((p : Int) < 0) = false := by simp
          have hd2 : decide (0 < (p : Int)) = true := by simp; omega
          clear HL HG HQ
          go_wp2
          go_ret
          exact ⟨ret_int (by rw [cmp_gt H.out]), rfl⟩

/-- The carry of x + y behind k digits. -/
def cr (x y k : Nat) : Nat := (x % 2 ^ (16 * k) + y % 2 ^ (16 * k)) / 2 ^ (16 * k)
theorem cr_zero (x y : Nat) : cr x y 0 = 0 := by simp [cr, Nat.mod_one]
theorem cr_le (x y k : Nat) : cr x y k ≤ 1 := by
  unfold cr
  have hP := Nat.two_pow_pos (16 * k)
  have l1 := Nat.mod_lt x hP
  have l2 := Nat.mod_lt y hP
  have : (x % 2 ^ (16 * k) + y % 2 ^ (16 * k)) / 2 ^ (16 * k) < 2 := by rw [Nat.div_lt_iff_lt_mul hP]; omega
  omega
theorem cr_step (x y k : Nat) : cr x y (k + 1) = (cr x y k + dg x k + dg y k) / 65536 := by
  unfold cr
  rw [mod_split, mod_split, show 2 ^ (16 * (k + 1)) = 2 ^ (16 * k) * 65536 by rw [show 16 * (k + 1) = 16 * k + 16 by omega, Nat.pow_add], ← Nat.div_div_eq_div_mul]
  have hP := Nat.two_pow_pos (16 * k)
  generalize 2 ^ (16 * k) = P at *
  rw [show x % P + P * dg x k + (y % P + P * dg y k) = x % P + y % P + P * (dg x k + dg y k) by rw [Nat.mul_add]; omega, Nat.add_mul_div_left _ _ hP, Nat.add_assoc]
theorem dg_add (x y k : Nat) : dg (x + y) k = (cr x y k + dg x k + dg y k) % 65536 := by
  unfold cr dg
  have hP := Nat.two_pow_pos (16 * k)
  generalize 2 ^ (16 * k) = P at *
  have h1 := Nat.mod_add_div x P
  have h2 := Nat.mod_add_div y P
  have h3 : (x + y) / P = (x % P + y % P) / P + (x / P + y / P) := by
    conv => lhs; rw [← h1, ← h2]
    rw [show x % P + P * (x / P) + (y % P + P * (y / P)) = x % P + y % P + P * (x / P + y / P) by rw [Nat.mul_add]; omega, Nat.add_mul_div_left _ _ hP]
  rw [h3]
  omega
theorem dg_top {x y : Nat} (hx : x < M256) (hy : y < M256) : dg (x + y) 16 = cr x y 16 := by
  rw [dg_add, dg_hi (k := 16) hx (by omega), dg_hi (k := 16) hy (by omega)]
  have := cr_le x y 16
  omega
/-- The borrow of x - y behind k digits. -/
def bw (x y k : Nat) : Nat := if x % 2 ^ (16 * k) < y % 2 ^ (16 * k) then 1 else 0
theorem bw_zero (x y : Nat) : bw x y 0 = 0 := by simp [bw, Nat.mod_one]
theorem bw_le (x y k : Nat) : bw x y k ≤ 1 := by unfold bw; split <;> omega
theorem bw_sum {x y z k n : Nat} (hz : (z + y) % 2 ^ (16 * n) = x % 2 ^ (16 * n)) (hk : k ≤ n) : z % 2 ^ (16 * k) + y % 2 ^ (16 * k) = x % 2 ^ (16 * k) + 2 ^ (16 * k) * bw x y k := by
  have hd : 2 ^ (16 * k) ∣ 2 ^ (16 * n) := Nat.pow_dvd_pow 2 (by omega)
  have h1 : (z + y) % 2 ^ (16 * k) = x % 2 ^ (16 * k) := by
    rw [← Nat.mod_mod_of_dvd (z + y) hd, hz, Nat.mod_mod_of_dvd x hd]
  have hP : 0 < 2 ^ (16 * k) := Nat.two_pow_pos _
  unfold bw
  rw [Nat.add_mod] at h1
  generalize 2 ^ (16 * k) = P at *
  have l1 := Nat.mod_lt x hP
  have l2 := Nat.mod_lt y hP
  have l3 := Nat.mod_lt z hP
  generalize x % P = a at *
  generalize y % P = b at *
  generalize z % P = c at *
  by_cases h : c + b < P
  · rw [Nat.mod_eq_of_lt h] at h1
    rw [if_neg (by omega)]; omega
  · have e : (c + b) % P = c + b - P := by
      rw [Nat.mod_eq_sub_mod (by omega), Nat.mod_eq_of_lt (by omega)]
    rw [e] at h1
    rw [if_pos (by omega)]; omega
theorem bw_step {x y z k n : Nat} (hz : (z + y) % 2 ^ (16 * n) = x % 2 ^ (16 * n)) (hk : k < n) : bw x y k + dg z k + dg y k = dg x k + 65536 * bw x y (k + 1) := by
  have h1 := bw_sum hz (Nat.le_of_lt hk)
  have h2 := bw_sum hz (Nat.succ_le_of_lt hk)
  rw [Nat.succ_eq_add_one, mod_split, mod_split, mod_split, show 2 ^ (16 * (k + 1)) = 2 ^ (16 * k) * 65536 by rw [show 16 * (k + 1) = 16 * k + 16 by omega, Nat.pow_add]] at h2
  have hP : 0 < 2 ^ (16 * k) := Nat.two_pow_pos _
  generalize 2 ^ (16 * k) = P at *
  have h3 : P * (bw x y k + dg z k + dg y k) = P * (dg x k + 65536 * bw x y (k + 1)) := by
    rw [Nat.mul_add, Nat.mul_add, Nat.mul_add, ← Nat.mul_assoc]; omega
  exact Nat.eq_of_mul_eq_mul_left hP h3
theorem word_step2 {x k : Nat} (hk : k < 16) {u v : Int} (hu : u = ((byt x (31 - 2 * k) : Nat) : Int)) (hv : v = ((byt x (30 - 2 * k) : Nat) : Int)) :
    ((bc 32 fun j => if 31 < j + 2 * k then byt x j else byt 0 j).setIfInBounds (31 - 2 * k) (.int .u8 u)).setIfInBounds (30 - 2 * k) (.int .u8 v) = bc 32 fun j => if 31 < j + 2 * (k + 1) then byt x j else byt 0 j := by
  rw [hu, hv, bc_set (by omega), bc_set (by omega)]
  refine bc_congr fun i hi => ?_
  by_cases h1 : i = 30 - 2 * k
  · rw [if_pos h1, if_pos (by omega), h1]
  · rw [if_neg h1]
    by_cases h2 : i = 31 - 2 * k
    · rw [if_pos h2, if_pos (by omega), h2]
    · rw [if_neg h2]
      by_cases h3 : 31 < i + 2 * k
      · rw [if_pos h3, if_pos (by omega)]
      · rw [if_neg h3, if_neg (by omega)]
/-- A list of digits. -/
def rl (n x : Nat) : List Value := (List.range n).map fun i => Value.int .i64 ((dg x i : Nat) : Int)
theorem rl_succ (n x : Nat) : rl (n + 1) x = rl n x ++ [.int .i64 ((dg x n : Nat) : Int)] := by simp [rl, List.range_succ]
theorem rl_get {n x i : Nat} (h : i < n) : (rl n x)[i]? = some (.int .i64 ((dg x i : Nat) : Int)) := by simp [rl, h]

set_option maxHeartbeats 1000000 in
set_option maxRecDepth 100000 in
theorem rword_any (n c b x : Nat) (w : World) (hn : 16 ≤ n) (hn2 : n ≤ 64) (hR : Row w b n x) :
    Calls Try.prog 50 #[.slice (some ⟨b, 0, none⟩) n c] w fun e w' => e = .returned (.agg (wcells x)) ∧ Tch [] w w' := by
  have HR := Lib.hid hR
  clear hR
  have hS := St.start w
  go_enter Try.func50, Try.ntmps50
  go_wp2_with (first | (have _t := b2; clear _t; refine st_new hS rfl 25 rfl word_zero' ?_; clear hS; intro w1 b3 hS) | (refine st_new hS rfl 25 rfl word_zero' ?_; clear hS; intro w1 b2 hS))
  go_loopw [4] (fun i wr => ∃ k : Nat, k ≤ 16 ∧ i = .int .i64 k ∧ St [] w wr [(b3, 25, bc 32 fun j => if 31 < j + 2 * k then byt x j else byt 0 j), (b2, 25, wcells 0)]) (fun i _ => 16 - (intOf i).toNat)
  case atStart =>
    refine ⟨0, by omega, rfl, ?_⟩
    rw [show (bc 32 fun j => if 31 < j + 2 * 0 then byt x j else byt 0 j) = bc 32 (byt 0) from bc_congr fun i hi => if_neg (by omega)]
    exact hS
  case round =>
    clear hS
    obtain ⟨k, hk, rfl, hS⟩ := hrel
    by_cases hlt : k < 16
    · have hkn : k < n := by omega
      have hd1 : decide (k < n) = true := by simpa using hkn
      have g := HR.out.at_ hkn
      have hb := HR.out.1
      have hl := dg_lt x k
      have e1 := byt_lo x k hlt
      have e2 := byt_hi x k hlt
      obtain ⟨p, hp⟩ : ∃ p, p = 31 - 2 * k := ⟨_, rfl⟩
      obtain ⟨q, hq⟩ : ∃ q, q = 30 - 2 * k := ⟨_, rfl⟩
      have t1 : 31 - 2 * (k : Int) = (p : Int) := by omega
      have t2 : 30 - 2 * (k : Int) = (q : Int) := by omega
      have hp2 : p < 32 := by omega
      have hq2 : q < 32 := by omega
      have hst := word_step2 (x := x) hlt (u := bits BinOp.and IntKind.i64 ((dg x k : Nat) : Int) 255 % 256) (v := ((dg x k : Nat) : Int) / 256) (by rw [int_and255, e1]; omega) (by rw [e2]; omega)
      rw [← hp, ← hq] at hst
      generalize dg x k = d at *
      have G := Lib.hid (And.intro (And.intro hb g) hst)
      clear g hb hst e1 e2 hp hq
      go_wp2_with (first | (refine st_old hS rfl 3 _ rfl rfl G.out.1 int3_agg ?_) | (refine st_store1 (j := p) hS rfl 5 _ _ rfl rfl rfl u8_size (by repeat (first | exact Upd.head | apply Upd.tail)) (by first | (rw [bc_size]; omega) | (rw [Array.size_setIfInBounds, bc_size]; omega)) ?_; clear hS; intro w1 hS) | (refine st_store1 (j := q) hS rfl 5 _ _ rfl rfl rfl u8_size (by repeat (first | exact Upd.head | apply Upd.tail)) (by first | (rw [bc_size]; omega) | (rw [Array.size_setIfInBounds, bc_size]; omega)) ?_; clear hS; intro w1 hS))
      rw [G.out.2] at hS
      go_roundw
      case rel => exact ⟨k + 1, by omega, by go_num, hS⟩
      case measure => simp [intOf]; omega
    · obtain rfl : k = 16 := by omega
      rw [show (bc 32 fun j => if 31 < j + 2 * 16 then byt x j else byt 0 j) = wcells x from bc_congr fun i hi => if_pos (by omega)] at hS
      go_wp2_with (first | (refine st_load hS rfl 25 _ rfl rfl (by repeat (first | exact At.head | apply At.tail)) wordN_type rfl wordN_size (bc_size _ _) ?_) | (refine st_store hS rfl 25 _ _ rfl rfl rfl (by repeat (first | exact Upd.head | apply Upd.tail)) wordN_size (bc_size _ _) (bc_size _ _) (bc_one _ _) ?_; clear hS; intro w1 hS))
      exact st_post hS 2 25 rfl rfl rfl (by repeat (first | exact At.head | apply At.tail)) wordN_type rfl wordN_size (bc_size _ _) (fun hb => ⟨rfl, hb⟩)

set_option maxHeartbeats 1000000 in
set_option maxRecDepth 100000 in
theorem sub_rows (n m b1 b2 c1 c2 x y z : Nat) (w : World) (hn : n ≤ 64) (hm : m ≤ n) (h1 : Row w b1 n x) (h2 : Row w b2 m y) (hy : y < 2 ^ (16 * m)) (hz : (z + y) % 2 ^ (16 * n) = x % 2 ^ (16 * n)) :
    Calls Try.prog 52 #[.slice (some ⟨b1, 0, none⟩) n c1, .slice (some ⟨b2, 0, none⟩) m c2] w fun e w' => ∃ b, e = .returned (.slice (some ⟨b, 0, none⟩) n n) ∧ w.heap.size ≤ b ∧ Blk w' b 3 (rowd n z) ∧ Tch [] w w' := by
  have HX := Lib.hid (And.intro h1 (And.intro h2 (And.intro hy hz)))
  clear h1 h2 hy hz
  have hS := St.start w
  go_enter Try.func52, Try.ntmps52
  go_wp2_with (first | (refine st_make n hS rfl _ _ rfl rfl rfl (by omega) ?_; clear hS; intro w1 b5 hS))
  go_loopw [6, 7] (fun c i wr => ∃ k : Nat, k ≤ n ∧ i = .int .i64 k ∧ c = .int .i64 ((bw x y k : Nat) : Int) ∧ St [] w wr [(b5, 3, rowd n (z % 2 ^ (16 * k)))]) (fun _ i _ => n - (intOf i).toNat)
  case atStart => exact ⟨0, by omega, rfl, by rw [bw_zero]; rfl, by rw [row_zero_mod]; exact hS⟩
  case round =>
    clear hS
    obtain ⟨k, hk, rfl, rfl, hS⟩ := hrel
    by_cases hlt : k < n
    · have hd1 : decide (k < n) = true := by simpa using hlt
      have g1 := HX.out.1.at_ hlt
      have hb1 := HX.out.1.1
      have hst := row_step (n := n) (x := z) hlt rfl
      have heq := bw_step HX.out.2.2.2 hlt
      have l1 := dg_lt x k
      have l2 := dg_lt y k
      have l3 := dg_lt z k
      have lc := bw_le x y k
      have lc2 := bw_le x y (k + 1)
      by_cases hkm : k < m
      · have g2 := HX.out.2.1.at_ hkm
        have hb2 := HX.out.2.1.1
        have hd2 : decide (k < m) = true := by simpa using hkm
        generalize dg x k = p at *
        generalize dg y k = q at *
        generalize dg z k = r at *
        generalize bw x y k = c at *
        obtain ⟨c', hc'⟩ : ∃ c', c' = bw x y (k + 1) := ⟨_, rfl⟩
        rw [← hc'] at heq lc2
        rcases Nat.eq_zero_or_pos c' with h0 | h0
        · have t1 : (p : Int) - (c : Int) - (q : Int) = (r : Int) := by omega
          have t2 : decide ((r : Int) < 0) = false := by simp
          have G := Lib.hid (And.intro (And.intro hb1 g1) (And.intro (And.intro hb2 g2) (And.intro hst (hc'.symm.trans h0))))
          clear g1 g2 hb1 hb2 hst heq hc' h0 lc2
          go_wp2_with (first | (refine st_old hS rfl 3 _ rfl rfl G.out.1 int3_agg ?_) | (refine st_old hS rfl 3 _ rfl rfl G.out.2.1 int3_agg ?_) | (refine st_store1 (j := k) hS rfl 3 _ _ rfl rfl rfl int_size (by repeat (first | exact Upd.head | apply Upd.tail)) (by rw [rf_size]; omega) ?_; clear hS; intro w1 hS))
          rw [G.out.2.2.1] at hS
          go_roundw
          case rel => exact ⟨k + 1, by omega, by go_num, by rw [G.out.2.2.2]; rfl, hS⟩
          case measure => simp [intOf]; omega
        · have t1 : (p : Int) - (c : Int) - (q : Int) + 65536 = (r : Int) := by omega
          have t2 : decide ((p : Int) - (c : Int) - (q : Int) < 0) = true := by simp; omega
          have t3 : (p : Int) - (c : Int) - (q : Int) < 0 := by omega
          have G := Lib.hid (And.intro (And.intro hb1 g1) (And.intro (And.intro hb2 g2) (And.intro hst (hc'.symm.trans (show c' = 1 by omega)))))
          clear g1 g2 hb1 hb2 hst heq hc' h0 lc2
          go_wp2_with (first | (refine st_old hS rfl 3 _ rfl rfl G.out.1 int3_agg ?_) | (refine st_old hS rfl 3 _ rfl rfl G.out.2.1 int3_agg ?_) | (refine st_store1 (j := k) hS rfl 3 _ _ rfl rfl rfl int_size (by repeat (first | exact Upd.head | apply Upd.tail)) (by rw [rf_size]; omega) ?_; clear hS; intro w1 hS))
          rw [G.out.2.2.1] at hS
          go_roundw
          case rel => exact ⟨k + 1, by omega, by go_num, by rw [G.out.2.2.2]; rfl, hS⟩
          case measure => simp [intOf]; omega
      · have hd2 : decide (k < m) = false := by simpa using hkm
        have hq : dg y k = 0 := dg_hi HX.out.2.2.1 (by omega)
        rw [hq] at heq
        clear hq l2
        generalize dg x k = p at *
        generalize dg z k = r at *
        generalize bw x y k = c at *
        obtain ⟨c', hc'⟩ : ∃ c', c' = bw x y (k + 1) := ⟨_, rfl⟩
        rw [← hc'] at heq lc2
        rcases Nat.eq_zero_or_pos c' with h0 | h0
        · have t1 : (p : Int) - (c : Int) = (r : Int) := by omega
          have t2 : decide ((r : Int) < 0) = false := by simp
          have G := Lib.hid (And.intro (And.intro hb1 g1) (And.intro hst (hc'.symm.trans h0)))
          clear g1 hb1 hst heq hc' h0 lc2
          go_wp2_with (first | (refine st_old hS rfl 3 _ rfl rfl G.out.1 int3_agg ?_) | (refine st_store1 (j := k) hS rfl 3 _ _ rfl rfl rfl int_size (by repeat (first | exact Upd.head | apply Upd.tail)) (by rw [rf_size]; omega) ?_; clear hS; intro w1 hS))
          rw [G.out.2.1] at hS
          go_roundw
          case rel => exact ⟨k + 1, by omega, by go_num, by rw [G.out.2.2]; rfl, hS⟩
          case measure => simp [intOf]; omega
        · have t1 : (p : Int) - (c : Int) + 65536 = (r : Int) := by omega
          have t2 : decide ((p : Int) - (c : Int) < 0) = true := by simp; omega
          have t3 : (p : Int) - (c : Int) < 0 := by omega
          have G := Lib.hid (And.intro (And.intro hb1 g1) (And.intro hst (hc'.symm.trans (show c' = 1 by omega))))
          clear g1 hb1 hst heq hc' h0 lc2
          go_wp2_with (first | (refine st_old hS rfl 3 _ rfl rfl G.out.1 int3_agg ?_) | (refine st_store1 (j := k) hS rfl 3 _ _ rfl rfl rfl int_size (by repeat (first | exact Upd.head | apply Upd.tail)) (by rw [rf_size]; omega) ?_; clear hS; intro w1 hS))
          rw [G.out.2.1] at hS
          go_roundw
          case rel => exact ⟨k + 1, by omega, by go_num, by rw [G.out.2.2]; rfl, hS⟩
          case measure => simp [intOf]; omega
    · obtain rfl : k = n := by omega
      rw [row_mod] at hS
      have hd1 : decide (k < k) = false := by simp
      go_wp2
      go_ret
      exact ⟨b5, rfl, hS.le .head, hS.get .head, hS.frame⟩

theorem one_new (w : World) (t : TypeId) (v : Value) : ∀ j u, ([v] : List Value)[j]? = some u → (w.alloc (.cells #[v] t)).cell? ((⟨w.heap.size, 0, none⟩ : Addr).add j) = some u := by
  intro j u hu
  rcases j with _ | j
  · have e : (⟨w.heap.size, 0, none⟩ : Addr).add 0 = ⟨w.heap.size, 0, none⟩ := by unfold Addr.add; simp
    rw [e, (Blk.new w t #[v]).cell (v := v) rfl]
    simpa using hu
  · simp at hu
theorem one_cell {v : Value} (h : v.oneCell' = true) : ∀ u ∈ [v], u.oneCell' = true := by
  intro u hu
  obtain rfl : u = v := by simpa using hu
  exact h
theorem own_row {w0 w : World} {n z : Nat} {v : Value} (hown : w.ownsRow w0.heap.size 3 1 v n (rl n z)) (hn : 0 < n) : ∃ b c, v = .slice (some ⟨b, 0, none⟩) n c ∧ w0.heap.size ≤ b ∧ Row w b n z := by
  obtain ⟨g, cap, rfl, hle, hlt⟩ := hown.form hn
  refine ⟨g, cap, rfl, hle, hlt, fun i hi => ?_⟩
  have := hown.cells (g := g) rfl i _ (rl_get hi)
  have e : (⟨g, 0, none⟩ : Addr).add i = ⟨g, i, none⟩ := by unfold Addr.add; split <;> simp_all
  rwa [e] at this
set_option maxHeartbeats 1000000 in
set_option maxRecDepth 100000 in
theorem add_rowsB (b1 b2 c1 c2 x y : Nat) (w : World) (h1 : Row w b1 16 x) (h2 : Row w b2 16 y) (hx : x < M256) (hy : y < M256) :
    Calls Try.prog 51 #[.slice (some ⟨b1, 0, none⟩) 16 c1, .slice (some ⟨b2, 0, none⟩) 16 c2] w fun e w' => ∃ b c, e = .returned (.slice (some ⟨b, 0, none⟩) 17 c) ∧ w.heap.size ≤ b ∧ Row w' b 17 (x + y) ∧ Below w.heap.size w w' := by
  have HX := Lib.hid (And.intro h1 (And.intro h2 (And.intro hx hy)))
  clear h1 h2 hx hy
  obtain ⟨i0, hi, hz0, hz1, hz2⟩ := info_parts int3_info
  go_enter Try.func51, Try.ntmps51
  go_wp2
  go_loopw [5, 6, 7] (fun v c i wr => ∃ k : Nat, k ≤ 16 ∧ i = .int .i64 k ∧ c = .int .i64 ((cr x y k : Nat) : Int) ∧ wr.ownsRow w.heap.size 3 1 v k (rl k (x + y)) ∧ Below w.heap.size w wr) (fun _ _ i _ => 16 - (intOf i).toNat)
  case atStart => exact ⟨0, by omega, rfl, by rw [cr_zero]; rfl, World.ownsRow_nil _ _ _ _, Below.refl _ _⟩
  case round =>
    obtain ⟨k, hk, rfl, rfl, hown, hbel⟩ := hrel
    by_cases hlt : k < 16
    · have g1 : wr.cell? ⟨b1, k, none⟩ = _ := (hbel.cell (p := ⟨b1, k, none⟩) HX.out.1.1).trans (HX.out.1.at_ hlt)
      have g2 : wr.cell? ⟨b2, k, none⟩ = _ := (hbel.cell (p := ⟨b2, k, none⟩) HX.out.2.1.1).trans (HX.out.2.1.at_ hlt)
      have hs := cr_step x y k
      have hd := dg_add x y k
      have hrl := rl_succ k (x + y)
      have lc := cr_le x y k
      have l1 := dg_lt x k
      have l2 := dg_lt y k
      generalize dg x k = p at *
      generalize dg y k = q at *
      generalize cr x y k = c at *
      have hand : bits BinOp.and IntKind.i64 ((c : Int) + (p : Int) + (q : Int)) 65535 = ((dg (x + y) k : Nat) : Int) := by rw [int_and65535, hd]; omega
      have hshr : ((c : Int) + (p : Int) + (q : Int)) / 65536 = ((cr x y (k + 1) : Nat) : Int) := by rw [hs]; omega
      have H := Lib.hid (And.intro hand (And.intro hshr hrl))
      have HB := Lib.hid hbel
      clear hs hd hand hshr hrl hbel
      go_wp2_with (first | (at_builtin; refine wpList_append_own _ rfl _ _ 103 rfl w.heap.size 3 i0 (.int .i64 0) 1 8 ints_type hi hz0 hz1 hz2 rfl (by decide) _ _ _ rfl (hown.alloc _) ⟨wr.heap.size, 0, none⟩ 1 1 [.int .i64 (bits BinOp.and IntKind.i64 ((c : Int) + (p : Int) + (q : Int)) 65535)] rfl rfl (one_new _ _ _) (one_cell rfl) (by unfold maxLen; omega) (by omega) (Nat.le_trans HB.out.size (by simp)) ?_; intro v' w1 hown' hgrow _))
      have hbel : Below w.heap.size w w1 := (HB.out.alloc HB.out.size _).grown hgrow (Nat.le_trans HB.out.size (by simp)) (fun k hk => (hown.lt k hk).1)
      replace hown := hown'
      clear hown'
      rw [H.out.1, ← H.out.2.2] at hown
      clear hgrow
      go_wp2
      go_roundw
      case rel => exact ⟨k + 1, by omega, by go_num, by rw [H.out.2.1], hown, hbel⟩
      case measure => simp [intOf]; omega
    · obtain rfl : k = 16 := by omega
      have ht := dg_top HX.out.2.2.1 HX.out.2.2.2
      have hrl := rl_succ 16 (x + y)
      rw [ht] at hrl
      have lc := cr_le x y 16
      generalize cr x y 16 = c at *
      have H := Lib.hid hrl
      have HB := Lib.hid hbel
      clear ht hrl hbel
      go_wp2_with (first | (at_builtin; refine wpList_append_own _ rfl _ _ 103 rfl w.heap.size 3 i0 (.int .i64 0) 1 8 ints_type hi hz0 hz1 hz2 rfl (by decide) _ _ _ rfl (hown.alloc _) ⟨wr.heap.size, 0, none⟩ 1 1 [.int .i64 (c : Int)] rfl rfl (one_new _ _ _) (one_cell rfl) (by unfold maxLen; omega) (by omega) (Nat.le_trans HB.out.size (by simp)) ?_; intro v' w1 hown' hgrow _))
      have hbel : Below w.heap.size w w1 := (HB.out.alloc HB.out.size _).grown hgrow (Nat.le_trans HB.out.size (by simp)) (fun k hk => (hown.lt k hk).1)
      replace hown := hown'
      clear hown'
      rw [← H.out] at hown
      clear hgrow
      obtain ⟨b, c', rfl, hle, hrow⟩ := own_row hown (by decide)
      go_wp2
      go_ret
      exact ⟨b, c', rfl, hle, hrow, hbel⟩
theorem add_rows (b1 b2 c1 c2 x y : Nat) (w : World) (h1 : Row w b1 16 x) (h2 : Row w b2 16 y) (hx : x < M256) (hy : y < M256) :
    Calls Try.prog 51 #[.slice (some ⟨b1, 0, none⟩) 16 c1, .slice (some ⟨b2, 0, none⟩) 16 c2] w fun e w' => ∃ b c, e = .returned (.slice (some ⟨b, 0, none⟩) 17 c) ∧ w.heap.size ≤ b ∧ Row w' b 17 (x + y) ∧ Tch [] w w' := (add_rowsB b1 b2 c1 c2 x y w h1 h2 hx hy).mono fun e w' ⟨b, c, h1, h2, h3, h4⟩ => ⟨b, c, h1, h2, h3, Tch.of_below h4⟩
end Go.Proofs.Ytklpcppdjcedpaa
