/- Zeros in front are struck: bytes.TrimLeft at a single byte, rlp.Big. -/
import Derived.Test.YtjlhnjnoigjjfaaDoorN0
namespace Go.Proofs.YtjlhnjnoigjjfaaDoor
open Go.RowKit

/-- How long a slice is. -/
def slLen : Value → Nat
  | .slice _ n _ => n
  | _ => 0
/-- Bytes without the zeros in front. -/
def stripZ : List Nat → List Nat
  | [] => []
  | x :: r => if x = 0 then stripZ r else x :: r
theorem stripZ_zero (r : List Nat) : stripZ (0 :: r) = stripZ r := by show (if 0 = 0 then _ else _) = _; rw [if_pos rfl]
theorem stripZ_pos {x : Nat} (r : List Nat) (h : x ≠ 0) : stripZ (x :: r) = x :: r := by show (if x = 0 then _ else _) = _; rw [if_neg h]
theorem stripZ_mem : ∀ {l : List Nat} {x : Nat}, x ∈ stripZ l → x ∈ l
  | [], _, h => h
  | y :: r, x, h => by
    by_cases hy : y = 0
    · subst hy; rw [stripZ_zero] at h; exact List.mem_cons_of_mem _ (stripZ_mem h)
    · rw [stripZ_pos r hy] at h; exact h
theorem at_ofN {X : List Nat} {w : World} {p : Option Addr} {n c : Nat} {l : List Nat} (h : RdA X w (.slice p n c) l) (hl : l ≠ []) : ∃ b o, p = some ⟨b, o, none⟩ ∧ b < w.heap.size ∧ ∀ i, i < l.length → w.cell? ⟨b, o + i, none⟩ = some (.int .u8 ((l.getD i 0 : Nat) : Int)) := by
  obtain ⟨_, _, h1, _, _, h4⟩ := h
  cases h1
  obtain ⟨b, o, h5, h6, _, h7⟩ := h4 hl
  exact ⟨b, o, h5, h6, h7⟩
theorem RdA.none_ (X : List Nat) (w : World) (p : Option Addr) (c : Nat) : RdA X w (.slice p 0 c) [] := ⟨p, c, rfl, Nat.zero_le _, by simp, fun h => absurd rfl h⟩
theorem st_fromN {P : Program} {ops : Array Oper} {rest : List Oper} {o : Oper} {a : Act} {w : World} {Q : Exit → Act → World → Prop} {v l r : Value} (hgd : o.guard = none) (ty : TypeId) (x lo : Operand) (ho : o.op = .slice ty x (some lo) none none) (hx : a.eval x = v) (hl : a.eval lo = l)
    (hr : ∀ w, (Instr.sliceAt ty v (some l) none none).run P w = .ok r w) (h : wpList P ops Q rest (a.put o.dst r) w) : wpList P ops Q (o :: rest) a w :=
  wpList_plain hgd fun K hK => by
    unfold Oper.wp execOp
    simp only [ho, hx, hl, Option.map_some, Option.map_none, Sem.run_bind, hr, Result.andThen_ok, Sem.run_pure]
    exact hK _ _ h
set_option maxHeartbeats 1000000 in
set_option maxRecDepth 100000 in
theorem trimLeftByte_any (X : List Nat) (v : Value) (l : List Nat) (w : World) (hm : l.length ≤ 1000000) (hv : RdA X w v l) :
    Calls Tryd.prog 29 #[v, .int .u8 0] w fun e w' => ∃ v', e = .returned v' ∧ w = w' ∧ RdA X w v' (stripZ l) := by
  obtain ⟨p, n, c, rfl⟩ := slice_keep hv
  have HV := Lib.hid hv
  have HM := Lib.hid hm
  clear hv hm
  go_enter Tryd.func29, Tryd.ntmps29
  go_wp2
  go_loopw [0] (fun u wr => ∃ q, wr = w ∧ Hid (RdA X w u q) ∧ Hid (stripZ q = stripZ l) ∧ Hid (q.length ≤ 1000000)) (fun u _ => slLen u)
  case atStart => exact ⟨l, rfl, HV, Lib.hid rfl, HM⟩
  case round =>
    obtain ⟨q, rfl, HQ, HE, HN⟩ := hrel
    obtain ⟨pu, nu, cu, rfl⟩ := slice_keep HQ.out
    have hcap := HQ.out.cap
    have hnn : nu ≤ 1000000 := by have := HN.out; have := HQ.out.len; omega
    cases q with
    | nil =>
      have hlen := HQ.out.len
      obtain rfl : nu = 0 := by simpa using hlen
      clear hlen hcap
      go_wp2
      go_ret
      refine ⟨_, rfl, rfl, ?_⟩
      rw [← HE.out]
      exact RdA.none_ _ _ _ _
    | cons x r =>
      have hlen := HQ.out.len
      obtain ⟨b, o, rfl, hbw, hc⟩ := at_ofN HQ.out (by simp)
      have hc0 := hc 0 (by simp)
      rw [Nat.add_zero] at hc0
      simp only [List.getD_cons_zero] at hc0
      have hx := HQ.out.lt x List.mem_cons_self
      simp only [List.length_cons] at hlen
      have h0 : 0 < nu := by omega
      have h0i : (0 : Int) < (nu : Int) := by omega
      have h0n : ¬ nu = 0 := by omega
      clear hc
      by_cases hx0 : x = 0
      · subst hx0
        obtain ⟨p3, c3, hsl, hc3, hrd⟩ := slice_from (some ⟨b, o, none⟩) nu cu 1 (by omega) hcap
        have hr := hrd X wr _ HQ.out
        simp only [List.drop_succ_cons, List.drop_zero] at hr
        have HR := Lib.hid hr
        have HSL := Lib.hid hsl
        have HLN := Lib.hid hlen
        clear hr hrd hsl hc3 hlen
        go_wp2_with (refine st_fromN (v := .slice (some ⟨b, o, none⟩) nu cu) (l := .int .i64 1) (r := .slice p3 (nu - 1) c3) rfl 24 _ _ (by rfl) (by rfl) (by rfl) HSL.out ?_)
        go_roundw
        case rel => exact ⟨r, by first | trivial | rfl, HR, Lib.hid (by rw [← HE.out, stripZ_zero]), Lib.hid (by have := HN.out; simp at this; omega)⟩
        case measure => simp [slLen]; omega
      · have e2 : ¬ (x : Int) = 0 := by omega
        have e3 : ((x : Int) == 0) = false := by rw [beq_eq_false_iff_ne]; omega
        clear hlen hcap
        go_wp2
        go_ret
        refine ⟨_, rfl, rfl, ?_⟩
        rw [← HE.out, stripZ_pos r hx0]
        exact HQ.out
set_option maxHeartbeats 1000000 in
set_option maxRecDepth 100000 in
theorem trimLeft_any (X : List Nat) (v : Value) (l : List Nat) (w : World) (hm : l.length ≤ 1000000) (hv : RdA X w v l) :
    Calls Tryd.prog 22 #[v, .string ⟨#[0]⟩] w fun e w' => ∃ v', e = .returned v' ∧ w = w' ∧ RdA X w v' (stripZ l) := by
  obtain ⟨p, n, c, rfl⟩ := slice_keep hv
  have HK := Lib.hid (trimLeftByte_any X _ l w hm hv)
  have hlen := hv.len
  have k1 : ((⟨#[0]⟩ : ByteArray).toList == (⟨#[]⟩ : ByteArray).toList) = false := by rw [ByteArray.toList_eq, ByteArray.toList_eq]; decide
  by_cases h0 : n = 0
  · subst h0
    obtain rfl : l = [] := List.eq_nil_of_length_eq_zero hlen.symm
    clear hv hlen hm
    go_enter Tryd.func22, Tryd.ntmps22
    go_wp2
    go_ret
    exact ⟨_, rfl, rfl, RdA.none_ _ _ _ _⟩
  · have e1 : ((n : Int) == 0) = false := by rw [beq_eq_false_iff_ne]; omega
    have e2 : ¬ (n : Int) = 0 := by omega
    clear hv hlen hm
    go_enter Tryd.func22, Tryd.ntmps22
    go_wp2_with (go_at_call 29; refine HK.out.mono ?_; rintro e w2 ⟨v2, rfl, rfl, hr⟩)
    go_ret
    exact ⟨_, rfl, rfl, hr⟩
end Go.Proofs.YtjlhnjnoigjjfaaDoor
