/- A struct of one slice in memory (a memory of the machine, a stack): its block, the row that is its own, what a call turns of it. -/
import Derived.Test.YtlliidfkjlmadaaN13
import Derived.Test.YtlliidfkjlmadaaB1
set_option linter.unusedVariables false
set_option linter.unusedSimpArgs false
namespace Go.Proofs.Ytlliidfkjlmadaa
open Go.RowKit

/-- The blocks in which a struct of one slice lies. -/
def fpr (b : Nat) (v : Value) : List Nat := b :: v.ownBlock.toList
theorem mem_fpr {b : Nat} {v : Value} {x : Nat} : x ∈ fpr b v ↔ x = b ∨ v.ownBlock = some x := by
  unfold fpr
  cases v.ownBlock <;> simp [eq_comm]
/-- A struct of one slice v in block b; v is a row of its own, of n elements of m cells of type e. -/
structure RowIn (B : Nat) (ty e m : Nat) (w : World) (b : Nat) (v : Value) (n : Nat) (xs : List Value) : Prop where
  blk : Blk w b ty #[v]
  own : w.ownsRow B e m v n xs
  apart : v.ownBlock ≠ some b
  base : B ≤ b
/-- A call has turned the struct in block b, and of what was there nothing else. -/
structure Turned (w w' : World) (b : Nat) (v v' : Value) : Prop where
  tch : Tch (fpr b v) w w'
  fresh : ∀ k, v'.ownBlock = some k → v.ownBlock = some k ∨ w.heap.size ≤ k
section
variable {B : Nat} {ty e m : Nat} {w w' w'' : World} {b c : Nat} {v v' v'' u : Value} {n : Nat} {xs : List Value} {G : List Nat}
theorem own_far (h : w.ownsRow B e m v n xs) (hT : Tch G w w') (hG : ∀ k, v.ownBlock = some k → k ∉ G) : w'.ownsRow B e m v n xs := by
  obtain ⟨h1, h2⟩ := h
  refine ⟨h1, h2.imp id ?_⟩
  rintro ⟨g, cap, cur, rfl, hg, hb, h3⟩
  exact ⟨g, cap, cur, rfl, hg, by rw [hT.block g (Array.getElem?_eq_some_iff.1 hb).1 (hG g rfl)]; exact hb, h3⟩
theorem RowIn.lt (h : RowIn B ty e m w b v n xs) {x : Nat} (hx : x ∈ fpr b v) : B ≤ x ∧ x < w.heap.size := by
  rcases mem_fpr.1 hx with rfl | hx
  · exact ⟨h.base, h.blk.lt⟩
  · exact h.own.lt x hx
theorem RowIn.far (h : RowIn B ty e m w b v n xs) (hT : Tch G w w') (hG : ∀ x ∈ fpr b v, x ∉ G) : RowIn B ty e m w' b v n xs :=
  ⟨hT.blk h.blk (hG b (mem_fpr.2 (.inl rfl))), own_far h.own hT fun k hk => hG k (mem_fpr.2 (.inr hk)), h.apart, h.base⟩
theorem RowIn.call (h : RowIn B ty e m w b v n xs) (hT : Tch [] w w') : RowIn B ty e m w' b v n xs := h.far hT (by simp)
theorem Turned.refl (w : World) (b : Nat) (v : Value) : Turned w w b v v := ⟨Tch.refl _ _, fun _ h => .inl h⟩
theorem Turned.of_tch (h : Tch [] w w') (b : Nat) (v : Value) : Turned w w' b v v := ⟨h.mono (by simp), fun _ h => .inl h⟩
theorem Turned.trans (h : Turned w w' b v v') (k : Turned w' w'' b v' v'') : Turned w w'' b v v'' :=
  ⟨⟨k.tch.os.trans h.tch.os, k.tch.tape.trans h.tch.tape, k.tch.output.trans h.tch.output, Nat.le_trans h.tch.size k.tch.size, fun x hx hb => (k.tch.block x (Nat.lt_of_lt_of_le hx h.tch.size) fun hm => by
    rcases mem_fpr.1 hm with rfl | hm
    · exact hb (mem_fpr.2 (.inl rfl))
    · rcases h.fresh x hm with h1 | h1
      · exact hb (mem_fpr.2 (.inr h1))
      · omega).trans (h.tch.block x hx hb)⟩, fun k' hk => by
    rcases k.fresh k' hk with h1 | h1
    · exact h.fresh k' h1
    · exact .inr (Nat.le_trans h.tch.size h1)⟩
/-- What lies apart stays apart. -/
theorem Turned.dis (h : Turned w w' b v v') (hd : ∀ x ∈ fpr c u, x ∉ fpr b v) (hl : ∀ x ∈ fpr c u, x < w.heap.size) : ∀ x ∈ fpr c u, x ∉ fpr b v' := by
  intro x hx hm
  rcases mem_fpr.1 hm with rfl | hk
  · exact hd x hx (mem_fpr.2 (.inl rfl))
  · rcases h.fresh x hk with h1 | h1
    · exact hd x hx (mem_fpr.2 (.inr h1))
    · exact Nat.lt_irrefl x (Nat.lt_of_lt_of_le (hl x hx) h1)
theorem dis_symm (hd : ∀ x ∈ fpr c u, x ∉ fpr b v) : ∀ x ∈ fpr b v, x ∉ fpr c u := fun x hx hm => hd x hm hx
/-- What a call does to its own struct is nothing to whoever began before that was laid down. -/
theorem Turned.fresh_tch {w0 : World} (hT : Tch [] w0 w) (h : Turned w w' b v v') (hb : ∀ x ∈ fpr b v, w0.heap.size ≤ x) : Tch [] w0 w' := Tch.fresh hT h.tch hb
/-- A struct that was just laid down. -/
theorem RowIn.new {L : List Ent} (hB : Blk w b ty #[.slice none 0 0]) (hb : B ≤ b) : RowIn B ty e m w b (.slice none 0 0) 0 [] :=
  ⟨hB, ⟨by simp, .inl ⟨rfl, rfl⟩⟩, (by simp [Value.ownBlock]), hb⟩
theorem RowIn.slice (h : RowIn B ty e m w b v n xs) : ∃ p c, v = .slice p n c ∧ n ≤ c := by
  rcases h.own.2 with ⟨rfl, rfl⟩ | ⟨g, cap, cur, rfl, _, _, hn, _⟩
  · exact ⟨none, 0, rfl, Nat.le_refl _⟩
  · exact ⟨_, cap, rfl, hn⟩
end
/-- A struct of bytes, its bytes L. -/
abbrev MemIn (B ty : Nat) (w : World) (b : Nat) (v : Value) (L : List Nat) : Prop := RowIn B ty 5 1 w b v L.length (nb L)
theorem memP_ty : Try.prog.underlying 26 = some (.struct (Try.prog.fieldsOf 26)) := by kernel_rfl
theorem memP_zero : (Try.prog.info? 26).bind (·.zero) = some (.agg #[.slice none 0 0]) := by kernel_rfl
theorem memR_zero : (Try.prog.info? 32).bind (·.zero) = some (.agg #[.slice none 0 0]) := by kernel_rfl
theorem stkP_zero : (Try.prog.info? 29).bind (·.zero) = some (.agg #[.slice none 0 0]) := by kernel_rfl
theorem stkR_zero : (Try.prog.info? 35).bind (·.zero) = some (.agg #[.slice none 0 0]) := by kernel_rfl
theorem fa_memP (b : Nat) (w : World) : (Instr.fieldAt 26 (.pointer (some ⟨b, 0, none⟩)) 0).run Try.prog w = .ok (.pointer (some ⟨b, 0, none⟩)) w := by kernel_rfl
theorem fa_memR (b : Nat) (w : World) : (Instr.fieldAt 32 (.pointer (some ⟨b, 0, none⟩)) 0).run Try.prog w = .ok (.pointer (some ⟨b, 0, none⟩)) w := by kernel_rfl
theorem fa_stkP (b : Nat) (w : World) : (Instr.fieldAt 29 (.pointer (some ⟨b, 0, none⟩)) 0).run Try.prog w = .ok (.pointer (some ⟨b, 0, none⟩)) w := by kernel_rfl
theorem fa_stkR (b : Nat) (w : World) : (Instr.fieldAt 35 (.pointer (some ⟨b, 0, none⟩)) 0).run Try.prog w = .ok (.pointer (some ⟨b, 0, none⟩)) w := by kernel_rfl
theorem words_ty : Try.prog.underlying 27 = some (.slice 37) := by kernel_rfl
theorem bytes_aggI (w : World) : (isAgg 24).run Try.prog w = .ok false w := by simp [isAgg, run_underlying bytes_ty]
theorem words_aggI (w : World) : (isAgg 27).run Try.prog w = .ok false w := by simp [isAgg, run_underlying words_ty]
set_option maxRecDepth 100000
/-- Size. -/
theorem size_any (B b : Nat) (v : Value) (L : List Nat) (w : World) (h : MemIn B 26 w b v L) :
    Calls Try.prog 10 #[.pointer (some ⟨b, 0, none⟩)] w fun e w' => e = .returned (.int .i64 (L.length : Int)) ∧ w' = w := by
  obtain ⟨p, c, rfl, _⟩ := h.slice
  have hS := St.one h.blk
  clear h
  go_enter Try.func10, Try.ntmps10
  go_wp2_with (refine st_cell1 (v := .slice p L.length c) hS rfl 24 _ rfl rfl .head rfl bytes_aggI ?_)
  go_ret
  exact ⟨rfl, rfl⟩
theorem wordsFor_any (n : Nat) (w : World) (hn : n ≤ 1048576) :
    Calls Try.prog 31 #[.int .i64 (n : Int)] w fun e w' => e = .returned (.int .i64 (((n + 31) / 32 : Nat) : Int)) ∧ w' = w := by
  go_enter Try.func31, Try.ntmps31
  go_wp2
  go_ret
  refine ⟨ret_int ?_, rfl⟩
  omega
/-- What so many words cost. -/
def costN (n : Nat) : Nat := 3 * n + n * n / 512
def capN (n : Int) : Nat := min n.toNat 1048576
theorem cost_wrap (n : Nat) (h : n ≤ 1048576) : wrap64 (3 * (n : Int) + wrap64 ((wrap64 ((n : Int) * n)).tdiv 512)) = ((costN n : Nat) : Int) := by
  have hq : n * n ≤ 1048576 * 1048576 := Nat.mul_le_mul h h
  have e : (n : Int) * n = ((n * n : Nat) : Int) := by simp
  unfold costN
  rw [e]
  generalize n * n = q at *
  rw [IntWalk.wrap64_in (q : Int) (by omega)]
  have h3 : (q : Int).tdiv 512 = ((q / 512 : Nat) : Int) := by rw [Int.tdiv_eq_ediv_of_nonneg (by omega)]; omega
  rw [h3, IntWalk.wrap64_in ((q / 512 : Nat) : Int) (by omega), IntWalk.wrap64_in _ (by omega)]
  omega
theorem costN_top : costN 1048576 = 2150629376 := by decide
theorem cost_any (n : Int) (w : World) :
    Calls Try.prog 18 #[.int .i64 n] w fun e w' => e = .returned (.int .i64 ((costN (capN n) : Nat) : Int)) ∧ w' = w := by
  by_cases h0 : n < 0
  · rw [show capN n = 0 by unfold capN; omega]
    go_enter Try.func18, Try.ntmps18
    go_wp2
    go_ret
    exact ⟨rfl, rfl⟩
  obtain ⟨k, rfl⟩ : ∃ k : Nat, n = k := ⟨n.toNat, by omega⟩
  by_cases h1 : 1048576 < k
  · rw [show capN (k : Int) = 1048576 by unfold capN; omega]
    have hn : ¬ (k : Int) ≤ 1048576 := by omega
    have hn' : (1048576 : Int) < k := by omega
    go_enter Try.func18, Try.ntmps18
    go_wp2
    go_ret
    exact ⟨rfl, rfl⟩
  · rw [show capN (k : Int) = k by unfold capN; omega]
    have hn : (k : Int) ≤ 1048576 := by omega
    have hq := cost_wrap k (by omega)
    go_enter Try.func18, Try.ntmps18
    go_wp2
    go_ret
    exact ⟨rfl, rfl⟩
theorem rcost_any (n : Int) (w : World) :
    Calls Try.prog 19 #[.int .i64 n] w fun e w' => e = .returned (.int .i64 ((costN (capN n) : Nat) : Int)) ∧ w' = w := by
  by_cases h0 : n < 0
  · rw [show capN n = 0 by unfold capN; omega]
    go_enter Try.func19, Try.ntmps19
    go_wp2
    go_ret
    exact ⟨rfl, rfl⟩
  obtain ⟨k, rfl⟩ : ∃ k : Nat, n = k := ⟨n.toNat, by omega⟩
  by_cases h1 : 1048576 < k
  · rw [show capN (k : Int) = 1048576 by unfold capN; omega]
    have hn' : (1048576 : Int) < k := by omega
    go_enter Try.func19, Try.ntmps19
    go_wp2
    go_ret
    exact ⟨rfl, rfl⟩
  · rw [show capN (k : Int) = k by unfold capN; omega]
    have hn : ¬ (1048576 : Int) < k := by omega
    have hq := cost_wrap k (by omega)
    go_enter Try.func19, Try.ntmps19
    go_wp2
    go_ret
    exact ⟨rfl, rfl⟩
theorem rwords_any (n : Nat) (w : World) (hn : n ≤ 1048576) :
    Calls Try.prog 33 #[.int .i64 (n : Int)] w fun e w' => e = .returned (.int .i64 (((n + 31) / 32 : Nat) : Int)) ∧ w' = w := by
  have ht : (n : Int).tdiv 32 = ((n / 32 : Nat) : Int) := by rw [Int.tdiv_eq_ediv_of_nonneg (by omega)]; omega
  have hm : (n : Int).tmod 32 = ((n % 32 : Nat) : Int) := by rw [Int.tmod_eq_emod_of_nonneg (by omega)]; omega
  have h0 : ¬ (n : Int) < 0 := by omega
  by_cases h : 0 < n % 32
  · have h1 : (0 : Int) < (n : Int).tmod 32 := by omega
    go_enter Try.func33, Try.ntmps33
    go_wp2
    go_ret
    refine ⟨ret_int ?_, rfl⟩
    omega
  · have h1 : ¬ (0 : Int) < (n : Int).tmod 32 := by omega
    go_enter Try.func33, Try.ntmps33
    go_wp2
    go_ret
    refine ⟨ret_int ?_, rfl⟩
    omega
/-- at + n, or that it is too much. -/
def behN (A N : List Nat) : Option Nat := match wInt A, wInt N with
  | some a, some n => if a + n ≤ 1048576 then some (a + n) else none
  | _, _ => none
theorem wInt_lt {A : List Nat} {a : Nat} (h : wInt A = some a) : a < 9223372036854775808 := by
  unfold wInt at h
  split at h
  · cases h; assumption
  · cases h
set_option maxHeartbeats 1000000
theorem behind_any (A N : List Nat) (w : World) (hA : A.length = 32) (hA2 : ∀ x ∈ A, x < 256) (hN : N.length = 32) (hN2 : ∀ x ∈ N, x < 256) :
    Calls Try.prog 30 #[.agg (wv A), .agg (wv N)] w (IntP (behN A N) w) := by
  have PA := Lib.hid (fun w' => pInt_any A w' hA hA2)
  have PN := Lib.hid (fun w' => pInt_any N w' hN hN2)
  have SA : (wv A).size = 32 := bc_size _ _
  have SN : (wv N).size = 32 := bc_size _ _
  have hS := St.start w
  unfold IntP behN at *
  have ha := @wInt_lt A
  have hn := @wInt_lt N
  clear hA hA2 hN hN2
  generalize wv A = ca at *
  generalize wv N = cn at *
  cases h1 : wInt A <;> cases h2 : wInt N <;> rw [h1] at PA <;> rw [h2] at PN <;> simp only [Option.getD_some, Option.isSome_some, Option.getD_none, Option.isSome_none] at PA PN ⊢
  case none.none =>
    go_enter Try.func30, Try.ntmps30
    go_wp2_with (first
      | (have _t := b2; clear _t; refine st_load (b := b1) hS rfl 37 _ rfl rfl (.tail .head) wordN_type rfl wordN_size SA ?_)
      | (refine st_box (L := []) hS rfl 37 _ rfl rfl ?_; clear hS; intro w1 b1 hS)
      | (refine st_box (L := [(b1, 37, ca)]) hS rfl 37 _ rfl rfl ?_; clear hS; intro w2 b2 hS)
      | (refine st_load (b := b2) hS rfl 37 _ rfl rfl .head wordN_type rfl wordN_size SN ?_)
      | (have _t := w3; clear _t; go_at_call 35; go_must (refine (PN.out _).mono ?_; rintro e w4 ⟨rfl, hT4⟩; replace hS := hS.call hT4; clear hT4))
      | (go_at_call 35; go_must (refine (PA.out _).mono ?_; rintro e w3 ⟨rfl, hT3⟩; replace hS := hS.call hT3; clear hT3)))
    go_ret2
    exact ⟨rfl, hS.frame⟩
  case none.some n =>
    have hn1 := hn h2
    clear ha hn h1 h2
    go_enter Try.func30, Try.ntmps30
    go_wp2_with (first
      | (have _t := b2; clear _t; refine st_load (b := b1) hS rfl 37 _ rfl rfl (.tail .head) wordN_type rfl wordN_size SA ?_)
      | (refine st_box (L := []) hS rfl 37 _ rfl rfl ?_; clear hS; intro w1 b1 hS)
      | (refine st_box (L := [(b1, 37, ca)]) hS rfl 37 _ rfl rfl ?_; clear hS; intro w2 b2 hS)
      | (refine st_load (b := b2) hS rfl 37 _ rfl rfl .head wordN_type rfl wordN_size SN ?_)
      | (have _t := w3; clear _t; go_at_call 35; go_must (refine (PN.out _).mono ?_; rintro e w4 ⟨rfl, hT4⟩; replace hS := hS.call hT4; clear hT4))
      | (go_at_call 35; go_must (refine (PA.out _).mono ?_; rintro e w3 ⟨rfl, hT3⟩; replace hS := hS.call hT3; clear hT3)))
    go_ret2
    exact ⟨rfl, hS.frame⟩
  case some.none a =>
    have ha1 := ha h1
    clear ha hn h1 h2
    go_enter Try.func30, Try.ntmps30
    go_wp2_with (first
      | (have _t := b2; clear _t; refine st_load (b := b1) hS rfl 37 _ rfl rfl (.tail .head) wordN_type rfl wordN_size SA ?_)
      | (refine st_box (L := []) hS rfl 37 _ rfl rfl ?_; clear hS; intro w1 b1 hS)
      | (refine st_box (L := [(b1, 37, ca)]) hS rfl 37 _ rfl rfl ?_; clear hS; intro w2 b2 hS)
      | (refine st_load (b := b2) hS rfl 37 _ rfl rfl .head wordN_type rfl wordN_size SN ?_)
      | (have _t := w3; clear _t; go_at_call 35; go_must (refine (PN.out _).mono ?_; rintro e w4 ⟨rfl, hT4⟩; replace hS := hS.call hT4; clear hT4))
      | (go_at_call 35; go_must (refine (PA.out _).mono ?_; rintro e w3 ⟨rfl, hT3⟩; replace hS := hS.call hT3; clear hT3)))
    go_ret2
    exact ⟨rfl, hS.frame⟩
  case some.some a n =>
    have ha1 := ha h1
    have hn1 := hn h2
    clear ha hn h1 h2
    by_cases h : a + n ≤ 1048576
    · rw [if_pos h]
      simp only [Option.getD_some, Option.isSome_some]
      have hg : ¬ (1048576 : Int) - a < n := by omega
      go_enter Try.func30, Try.ntmps30
      go_wp2_with (first
        | (have _t := b2; clear _t; refine st_load (b := b1) hS rfl 37 _ rfl rfl (.tail .head) wordN_type rfl wordN_size SA ?_)
        | (refine st_box (L := []) hS rfl 37 _ rfl rfl ?_; clear hS; intro w1 b1 hS)
        | (refine st_box (L := [(b1, 37, ca)]) hS rfl 37 _ rfl rfl ?_; clear hS; intro w2 b2 hS)
        | (refine st_load (b := b2) hS rfl 37 _ rfl rfl .head wordN_type rfl wordN_size SN ?_)
        | (have _t := w3; clear _t; go_at_call 35; go_must (refine (PN.out _).mono ?_; rintro e w4 ⟨rfl, hT4⟩; replace hS := hS.call hT4; clear hT4))
        | (go_at_call 35; go_must (refine (PA.out _).mono ?_; rintro e w3 ⟨rfl, hT3⟩; replace hS := hS.call hT3; clear hT3)))
      go_ret2
      exact ⟨rfl, hS.frame⟩
    · rw [if_neg h]
      simp only [Option.getD_none, Option.isSome_none]
      have hg : (1048576 : Int) - a < n := by omega
      go_enter Try.func30, Try.ntmps30
      go_wp2_with (first
        | (have _t := b2; clear _t; refine st_load (b := b1) hS rfl 37 _ rfl rfl (.tail .head) wordN_type rfl wordN_size SA ?_)
        | (refine st_box (L := []) hS rfl 37 _ rfl rfl ?_; clear hS; intro w1 b1 hS)
        | (refine st_box (L := [(b1, 37, ca)]) hS rfl 37 _ rfl rfl ?_; clear hS; intro w2 b2 hS)
        | (refine st_load (b := b2) hS rfl 37 _ rfl rfl .head wordN_type rfl wordN_size SN ?_)
        | (have _t := w3; clear _t; go_at_call 35; go_must (refine (PN.out _).mono ?_; rintro e w4 ⟨rfl, hT4⟩; replace hS := hS.call hT4; clear hT4))
        | (go_at_call 35; go_must (refine (PA.out _).mono ?_; rintro e w3 ⟨rfl, hT3⟩; replace hS := hS.call hT3; clear hT3)))
      go_ret2
      exact ⟨rfl, hS.frame⟩
end Go.Proofs.Ytlliidfkjlmadaa
