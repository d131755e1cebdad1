/- (*Mem).Grow, the program's. -/
import Derived.Test.YtlliidfkjlmadaaI2
set_option linter.unusedVariables false
set_option linter.unusedSimpArgs false
namespace Go.Proofs.Ytlliidfkjlmadaa
open Go.RowKit
set_option maxRecDepth 100000
set_option maxHeartbeats 1000000

def wds (n : Nat) : Nat := (n + 31) / 32
/-- A memory that was to have at + n bytes: its bytes, the gas, whether it may be. -/
def growL (L A N : List Nat) : List Nat := if N = zs32 then L else match behN A N with
  | none => L
  | some e => L ++ List.replicate ((wds e - wds L.length) * 32) 0
def growG (L A N : List Nat) : Nat := if N = zs32 then 0 else match behN A N with
  | none => 0
  | some e => if wds e ≤ wds L.length then 0 else costN (wds e) - costN (wds L.length)
def growOk (A N : List Nat) : Bool := decide (N = zs32) || (behN A N).isSome
theorem behN_le {A N : List Nat} {e : Nat} (h : behN A N = some e) : e ≤ 1048576 := by
  unfold behN at h
  split at h
  · split at h
    · cases h; assumption
    · cases h
  · cases h
theorem growL_len {L A N : List Nat} {k : Nat} (hk : L.length = 32 * k) (hk2 : k ≤ 32768) : ∃ j, (growL L A N).length = 32 * j ∧ j ≤ 32768 := by
  unfold growL
  split
  · exact ⟨k, hk, hk2⟩
  · split
    · exact ⟨k, hk, hk2⟩
    · rename_i e he
      have := behN_le he
      refine ⟨k + (wds e - wds L.length), by rw [List.length_append, List.length_replicate]; omega, ?_⟩
      unfold wds
      omega
theorem costN_mono {m n : Nat} (h : m ≤ n) : costN m ≤ costN n := by
  unfold costN
  have := Nat.mul_le_mul h h
  omega
def GrowP (B ty : Nat) (w : World) (b : Nat) (v : Value) (g : Nat) (ok : Bool) (L' : List Nat) (e : Ending) (w' : World) : Prop :=
  ∃ v', e = .returned (.tuple #[.int .i64 (g : Int), .bool ok]) ∧ MemIn B ty w' b v' L' ∧ Turned w w' b v v'
theorem GrowP.mk {B ty : Nat} {w w' : World} {b : Nat} {v v' : Value} {g : Nat} {ok : Bool} {L' : List Nat} {e : Ending} (h : e = .returned (.tuple #[.int .i64 (g : Int), .bool ok])) (h1 : MemIn B ty w' b v' L') (h2 : Turned w w' b v v') : GrowP B ty w b v g ok L' e w' := ⟨v', h, h1, h2⟩
theorem grow_any (B b : Nat) (v : Value) (L A N : List Nat) (w : World) (h : MemIn B 26 w b v L) (hL : L.length ≤ 1048576) (hA : Wd A) (hN : Wd N) :
    Calls Try.prog 16 #[.pointer (some ⟨b, 0, none⟩), .agg (wv A), .agg (wv N)] w (GrowP B 26 w b v (growG L A N) (growOk A N) (growL L A N)) := by
  obtain ⟨p, c, hv, hc⟩ := h.slice
  have HB := Lib.hid (fun w' => behind_any A N w' hA.1 hA.2 hN.1 hN.2)
  unfold IntP at HB
  have HE := Lib.hid (fun w' (o : Oper) (a : Act) xo yo yt h1 h2 h3 => x_eqW (o := o) (a := a) (w := w') hN zs32_ok xo yo yt h1 h2 h3)
  have SA : (wv A).size = 32 := bc_size _ _
  have SN : (wv N).size = 32 := bc_size _ _
  have SZ : (wv zs32).size = 32 := bc_size _ _
  have HX := Lib.hid (fun w' (o : Oper) (a : Act) h1 => x_buildW (o := o) (a := a) (w := w') h1)
  unfold growL growG growOk
  have HW1 := Lib.hid (fun w' => wordsFor_any L.length w' hL)
  have HH := Lib.hid h
  have hS := St.one h.blk
  clear h hA hN
  generalize wv A = ca at *
  generalize wv N = cn at *
  generalize wv zs32 = cz at *
  by_cases h0 : N = zs32
  · simp only [if_pos h0, h0, decide_true, Bool.true_or] at HE ⊢
    subst hv
    clear h0
    go_enter Try.func16, Try.ntmps16
    go_wp2_with (first
      | (have _t := b1; clear _t; refine st_box hS rfl 37 _ rfl rfl ?_; clear hS; intro w2 b2 hS)
      | (refine st_box hS rfl 37 _ rfl rfl ?_; clear hS; intro w1 b1 hS)
      | (refine st_load (b := b2) hS rfl 37 _ rfl rfl .head wordN_type rfl wordN_size SN ?_)
      | (refine st_x rfl (HX.out _ _ _ rfl) ?_)
      | (refine st_x rfl (HE.out _ _ _ _ _ _ rfl rfl rfl) ?_))
    go_ret2
    obtain ⟨h1, h2⟩ := HH.out.kept hS (.tail (.tail .head))
    exact GrowP.mk rfl h1 h2
  simp only [if_neg h0, h0, decide_false, Bool.false_or, if_false] at HE ⊢
  clear h0
  cases hb : behN A N with
  | none =>
    rw [hb] at HB
    simp only [Option.getD_none, Option.isSome_none] at HB ⊢
    clear hb
    subst hv
    go_enter Try.func16, Try.ntmps16
    go_wp2_with (first
      | (have _t := b1; clear _t; refine st_box hS rfl 37 _ rfl rfl ?_; clear hS; intro w2 b2 hS)
      | (refine st_box hS rfl 37 _ rfl rfl ?_; clear hS; intro w1 b1 hS)
      | (refine st_load (b := b2) hS rfl 37 _ rfl rfl .head wordN_type rfl wordN_size SN ?_)
      | (refine st_load (b := b1) hS rfl 37 _ rfl rfl (.tail .head) wordN_type rfl wordN_size SA ?_)
      | (refine st_x rfl (HX.out _ _ _ rfl) ?_)
      | (refine st_x rfl (HE.out _ _ _ _ _ _ rfl rfl rfl) ?_)
      | (go_at_call 30; go_must (refine (HB.out _).mono ?_; rintro e w3 ⟨rfl, hT3⟩; replace hS := hS.call hT3; clear hT3)))
    go_ret2
    obtain ⟨h1, h2⟩ := HH.out.kept hS (.tail (.tail .head))
    exact GrowP.mk rfl h1 h2
  | some e =>
    rw [hb] at HB
    simp only [Option.getD_some, Option.isSome_some] at HB ⊢
    have he := behN_le hb
    have HW2 := Lib.hid (fun w' => wordsFor_any e w' he)
    have hwe : wds e ≤ 32768 := by unfold wds; omega
    have hwl : wds L.length ≤ 32768 := by unfold wds; omega
    rw [show (L.length + 31) / 32 = wds L.length from rfl] at HW1
    rw [show (e + 31) / 32 = wds e from rfl] at HW2
    clear hb
    generalize hse : wds e = se at *
    generalize hsl : wds L.length = sl at *
    subst hv
    clear hse hsl
    by_cases hle : se ≤ sl
    · rw [if_pos hle, show (se - sl) * 32 = 0 by omega, List.replicate_zero, List.append_nil]
      have hle' : (se : Int) ≤ (sl : Int) := by omega
      go_enter Try.func16, Try.ntmps16
      go_wp2_with (first
        | (have _t := b1; clear _t; refine st_box hS rfl 37 _ rfl rfl ?_; clear hS; intro w2 b2 hS)
        | (refine st_box hS rfl 37 _ rfl rfl ?_; clear hS; intro w1 b1 hS)
        | (refine st_load (b := b2) hS rfl 37 _ rfl rfl .head wordN_type rfl wordN_size SN ?_)
        | (refine st_load (b := b1) hS rfl 37 _ rfl rfl (.tail .head) wordN_type rfl wordN_size SA ?_)
        | (refine st_cell1 (v := .slice p L.length c) hS rfl 24 _ rfl rfl (.tail (.tail .head)) rfl bytes_aggI ?_)
        | (refine st_x rfl (HX.out _ _ _ rfl) ?_)
        | (refine st_x rfl (HE.out _ _ _ _ _ _ rfl rfl rfl) ?_)
        | (go_at_call 30; go_must (refine (HB.out _).mono ?_; rintro e w3 ⟨rfl, hT3⟩; replace hS := hS.call hT3; clear hT3))
        | (have _t := u1; clear _t; go_at_call 31; go_must (refine (HW2.out _).mono ?_; rintro e w5 ⟨rfl, hw5⟩; obtain ⟨u2, hu2⟩ : ∃ u2 : Nat, u2 = 2 := ⟨_, rfl⟩; subst hw5))
        | (go_at_call 31; go_must (refine (HW1.out _).mono ?_; rintro e w4 ⟨rfl, hw4⟩; obtain ⟨u1, hu1⟩ : ∃ u1 : Nat, u1 = 1 := ⟨_, rfl⟩; subst hw4)))
      go_ret2
      obtain ⟨h1, h2⟩ := HH.out.kept hS (.tail (.tail .head))
      exact GrowP.mk rfl h1 h2
    · rw [if_neg hle]
      have hle' : ¬ (se : Int) ≤ (sl : Int) := by omega
      have hq : IntKind.i64.wrap ((se : Int) - sl) = ((se - sl : Nat) : Int) := by rw [IntKind.wrap_i64]; omega
      have hq2 : IntKind.i64.wrap (((se - sl : Nat) : Int) * 32) = (((se - sl) * 32 : Nat) : Int) := by rw [IntKind.wrap_i64]; omega
      have hm0 : 0 < (se - sl) * 32 := by omega
      have hm1 : (se - sl) * 32 ≤ 2000000 := by omega
      have hcm := costN_mono (show sl ≤ se by omega)
      have hct : costN se ≤ 10000000000 := Nat.le_trans (costN_mono (show se ≤ 1048576 by omega)) (by rw [costN_top]; decide)
      have HC1 := Lib.hid (fun w' => cost_any (se : Int) w')
      have HC2 := Lib.hid (fun w' => cost_any (sl : Int) w')
      rw [show capN (se : Int) = se by unfold capN; omega] at HC1
      rw [show capN (sl : Int) = sl by unfold capN; omega] at HC2
      have hq3 : IntKind.i64.wrap ((costN se : Int) - costN sl) = ((costN se - costN sl : Nat) : Int) := by rw [IntKind.wrap_i64]; omega
      generalize costN se = ke at *
      generalize costN sl = kl at *
      generalize (se - sl) * 32 = m at *
      go_enter Try.func16, Try.ntmps16
      go_upto_region 9 with (first
        | (have _t := b1; clear _t; refine st_box hS rfl 37 _ rfl rfl ?_; clear hS; intro w2 b2 hS)
        | (refine st_box hS rfl 37 _ rfl rfl ?_; clear hS; intro w1 b1 hS)
        | (refine st_load (b := b2) hS rfl 37 _ rfl rfl .head wordN_type rfl wordN_size SN ?_)
        | (refine st_load (b := b1) hS rfl 37 _ rfl rfl (.tail .head) wordN_type rfl wordN_size SA ?_)
        | (refine st_cell1 (v := .slice p L.length c) hS rfl 24 _ rfl rfl (.tail (.tail .head)) rfl bytes_aggI ?_)
        | (refine st_x rfl (HX.out _ _ _ rfl) ?_)
        | (refine st_x rfl (HE.out _ _ _ _ _ _ rfl rfl rfl) ?_)
        | (go_at_call 30; go_must (refine (HB.out _).mono ?_; rintro e w3 ⟨rfl, hT3⟩; replace hS := hS.call hT3; clear hT3))
        | (have _t := u1; clear _t; go_at_call 31; go_must (refine (HW2.out _).mono ?_; rintro e w5 ⟨rfl, hw5⟩; obtain ⟨u2, hu2⟩ : ∃ u2 : Nat, u2 = 2 := ⟨_, rfl⟩; subst hw5))
        | (go_at_call 31; go_must (refine (HW1.out _).mono ?_; rintro e w4 ⟨rfl, hw4⟩; obtain ⟨u1, hu1⟩ : ∃ u1 : Nat, u1 = 1 := ⟨_, rfl⟩; subst hw4)))
      obtain ⟨hM5, hT5⟩ := HH.out.kept hS (.tail (.tail .head))
      have hb5 : b ∉ (Value.slice p L.length c).ownBlock.toList := fun hm => hM5.apart (by simpa using hm)
      have hB5 : B ≤ w5.heap.size := Nat.le_trans hM5.base (Nat.le_of_lt hM5.blk.lt)
      have hL2 : L.length ≤ 2000000 := by omega
      have HM := Lib.hid hM5
      go_upto_region 10 with (first
        | (refine st_cell1 (v := .slice p L.length c) hS rfl 24 _ rfl rfl (.tail (.tail .head)) rfl bytes_aggI ?_)
        | (at_builtin; go_must (refine st_growZ (B := B) (v := .slice p L.length c) (l := L) (m := m) rfl _ _ rfl rfl rfl HM.out.own hB5 hm0 hm1 hL2 ?_; intro v6 w6 hown6 hT6 hf6; have hv6 := own_one hown6; have HO6 := Lib.hid hown6; clear hown6))
        | (refine st_storeV (v := .slice p L.length c) (v' := v6) (hT6.blk HM.out.blk hb5) rfl _ _ rfl rfl rfl hv6 bytes_sizeI ?_; intro w7 hB7 hO7))
      obtain ⟨h1, h2⟩ := RowIn.stored HM.out HO6.out hT6 hf6 hB7 hO7
      have HF := Lib.hid (And.intro h1 (hT5.trans h2))
      clear h1 h2 hB7 hO7 hT6 hf6 hT5 hM5 hS
      go_wp2_with (first
        | (have _t := w8; clear _t; go_at_call 18; go_must (refine (HC2.out _).mono ?_; rintro e w9 ⟨rfl, hw9⟩; subst hw9))
        | (go_at_call 18; go_must (refine (HC1.out _).mono ?_; rintro e w8 ⟨rfl, hw8⟩; obtain ⟨u3, hu3⟩ : ∃ u3 : Nat, u3 = 3 := ⟨_, rfl⟩; have HW8 := Lib.hid hw8)))
      go_ret2
      exact GrowP.mk rfl HF.out.1 HF.out.2
end Go.Proofs.Ytlliidfkjlmadaa
