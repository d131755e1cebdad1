/- Words shifted by words, their bytes, and what extends them. -/
import Derived.Test.YtcdjinjeogodfaaJ4
import Derived.Test.YtcdjinjeogodfaaC5
namespace Go.Proofs.Ytcdjinjeogodfaa
open Go.RowKit

theorem word_lit_eq : (Value.agg #[.int .u8 0, .int .u8 0, .int .u8 0, .int .u8 0, .int .u8 0, .int .u8 0, .int .u8 0, .int .u8 0, .int .u8 0, .int .u8 0, .int .u8 0, .int .u8 0, .int .u8 0, .int .u8 0, .int .u8 0, .int .u8 0, .int .u8 0, .int .u8 0, .int .u8 0, .int .u8 0, .int .u8 0, .int .u8 0, .int .u8 0, .int .u8 0, .int .u8 0, .int .u8 0, .int .u8 0, .int .u8 0, .int .u8 0, .int .u8 0, .int .u8 0, .int .u8 0]) = .agg (wcells 0) := by
  rw [wcells, wf_zero]
theorem below_in (k limit : Nat) (l : Int) (e : l = (limit : Int)) (hl : limit ≤ 256) (hk : k < limit) (w : World) :
    Calls Try.prog 86 #[.agg (wcells k), .int .u64 l] w fun e w' => e = .returned (.tuple #[.int .u64 (k : Int), .bool true]) ∧ Below w.heap.size w w' := by
  subst e; exact below_yes k limit hl hk w
theorem below_out (k limit : Nat) (l : Int) (e : l = (limit : Int)) (hl : limit ≤ 256) (hx : k < M256) (hk : ¬ k < limit) (w : World) :
    Calls Try.prog 86 #[.agg (wcells k), .int .u64 l] w fun e w' => e = .returned (.tuple #[.int .u64 0, .bool false]) ∧ Below w.heap.size w w' := by
  subst e; exact below_no k limit hl hx hk w
theorem shl_mod (n x : Nat) (hn : n < 256) (hx : x < M256) (w : World) :
    Calls Try.prog 88 #[.int .u64 (n : Int), .agg (wcells x)] w fun e w' => e = .returned (.agg (wcells (x * 2 ^ n % M256))) ∧ Below w.heap.size w w' := by
  rw [wcells_mod]; exact shl_any n x hn hx w
theorem sar_255 (x : Nat) (hx : x < M256) (w : World) :
    Calls Try.prog 91 #[.int .u64 255, .agg (wcells x)] w fun e w' => e = .returned (.agg (wcells (sarN 255 x))) ∧ Below w.heap.size w w' := sar_any 255 x (by decide) hx w
section
variable {P : Program} {ops : Array Oper} {rest : List Oper} {o : Oper} {a : Act} {w0 w : World} {Q : Exit → Act → World → Prop} {L : List Ent} {b : Nat} {t : TypeId} {c : Array Value}
/-- One cell of a block is read. -/
theorem st_cell {v : Value} {j : Nat} (hS : St w0 w L) (hgd : o.guard = none) (ty : TypeId) (x : Operand) (ho : o.op = .load ty x) (hx : a.eval x = .pointer (some ⟨b, j, none⟩)) (m : At L b t c) (hv : c[j]? = some v)
    (hu : ∀ w, (isAgg ty).run P w = .ok false w) (h : wpList P ops Q rest (a.put o.dst v) w) : wpList P ops Q (o :: rest) a w :=
  wpList_plain hgd fun K hK => by
    have hl := (hS.get m).cell hv
    unfold Oper.wp execOp
    simp only [ho, hx, Instr.loadAt, Instr.sureAddr, loadVar, Sem.run_bind, hu, Result.andThen_ok, Sem.run_pure, Bool.false_eq_true, if_false, run_load, hl]
    exact hK _ _ h
end
theorem u8_agg (w : World) : (isAgg 5).run Try.prog w = .ok false w := by
  have hu : Try.prog.underlying 5 = some (.int .u8) := by kernel_rfl
  simp [isAgg, run_underlying hu]
def shlN (k x : Nat) : Nat := if k < 256 then x * 2 ^ k % M256 else 0
def shrN (k x : Nat) : Nat := if k < 256 then x / 2 ^ k else 0
def sraN (k x : Nat) : Nat := if k < 256 then sarN k x else sarN 255 x
def bytN (k x : Nat) : Nat := if k < 32 then byt x k else 0
def extN (k x : Nat) : Nat := if k < 31 then sarN (8 * (31 - k)) (x * 2 ^ (8 * (31 - k)) % M256) else x
set_option maxHeartbeats 1000000 in
set_option maxRecDepth 100000 in
theorem Shl_any (k x : Nat) (hk : k < M256) (hx : x < M256) (w : World) :
    Calls Try.prog 48 #[.agg (wcells k), .agg (wcells x)] w fun e w' => e = .returned (.agg (wcells (shlN k x))) ∧ Below w.heap.size w w' := by
  by_cases h : k < 256
  · have hb := fun w => below_in k 256 256 rfl (by decide) h w
    have hc := fun w => shl_mod k x h hx w
    rw [show shlN k x = _ from if_pos h]
    have H := Lib.hid (And.intro hb hc)
    clear hb hc h hk hx
    have hS := St.start w
    go_enter Try.func48, Try.ntmps48
    go_wp2_with (first | (refine st_box hS rfl _ _ rfl rfl ?_; clear hS; intro w1 b1 hS) | (refine st_new hS rfl 23 rfl word_zero ?_; clear hS; intro w1 b1 hS) | (refine st_load hS rfl 23 _ rfl rfl (by repeat (first | exact At.head | apply At.tail)) word_type rfl word_size (wf_size _) ?_) | (refine st_store hS rfl 23 _ _ rfl rfl rfl (by repeat (first | exact Upd.head | apply Upd.tail)) word_size (wf_size _) (wf_size _) (wf_one _) ?_; clear hS; intro w1 hS) | (go_at_call 86; with_reducible refine (H.out.1 _).mono ?_; rintro e w1 ⟨rfl, hb⟩; replace hS := hS.call hb; clear hb) | (go_at_call 88; with_reducible refine (H.out.2 _).mono ?_; rintro e w1 ⟨rfl, hb⟩; replace hS := hS.call hb; clear hb))
    exact st_post hS 4 23 rfl rfl rfl (by repeat (first | exact At.head | apply At.tail)) word_type rfl word_size (wf_size _) (fun hb => ⟨rfl, hb⟩)
  · have hb := fun w => below_out k 256 256 rfl (by decide) hk h w
    rw [show shlN k x = 0 from if_neg h]
    have H := Lib.hid (And.intro hb trivial)
    clear hb h hk hx
    have hS := St.start w
    go_enter Try.func48, Try.ntmps48
    go_wp2_with (first | (refine st_box hS rfl _ _ rfl rfl ?_; clear hS; intro w1 b1 hS) | (refine st_new hS rfl 23 rfl word_zero ?_; clear hS; intro w1 b1 hS) | (refine st_load hS rfl 23 _ rfl rfl (by repeat (first | exact At.head | apply At.tail)) word_type rfl word_size (wf_size _) ?_) | (refine st_store (c' := wcells 0) hS rfl 23 _ _ rfl rfl word_lit_eq (by repeat (first | exact Upd.head | apply Upd.tail)) word_size (wf_size _) (wf_size _) (wf_one _) ?_; clear hS; intro w1 hS) | (go_at_call 86; with_reducible refine (H.out.1 _).mono ?_; rintro e w1 ⟨rfl, hb⟩; replace hS := hS.call hb; clear hb))
    exact st_post hS 4 23 rfl rfl rfl (by repeat (first | exact At.head | apply At.tail)) word_type rfl word_size (wf_size _) (fun hb => ⟨rfl, hb⟩)
set_option maxHeartbeats 1000000 in
set_option maxRecDepth 100000 in
theorem Shr_any (k x : Nat) (hk : k < M256) (hx : x < M256) (w : World) :
    Calls Try.prog 50 #[.agg (wcells k), .agg (wcells x)] w fun e w' => e = .returned (.agg (wcells (shrN k x))) ∧ Below w.heap.size w w' := by
  by_cases h : k < 256
  · have hb := fun w => below_in k 256 256 rfl (by decide) h w
    have hc := fun w => shr_any k x h hx w
    rw [show shrN k x = _ from if_pos h]
    have H := Lib.hid (And.intro hb hc)
    clear hb hc h hk hx
    have hS := St.start w
    go_enter Try.func50, Try.ntmps50
    go_wp2_with (first | (refine st_box hS rfl _ _ rfl rfl ?_; clear hS; intro w1 b1 hS) | (refine st_new hS rfl 23 rfl word_zero ?_; clear hS; intro w1 b1 hS) | (refine st_load hS rfl 23 _ rfl rfl (by repeat (first | exact At.head | apply At.tail)) word_type rfl word_size (wf_size _) ?_) | (refine st_store hS rfl 23 _ _ rfl rfl rfl (by repeat (first | exact Upd.head | apply Upd.tail)) word_size (wf_size _) (wf_size _) (wf_one _) ?_; clear hS; intro w1 hS) | (go_at_call 86; with_reducible refine (H.out.1 _).mono ?_; rintro e w1 ⟨rfl, hb⟩; replace hS := hS.call hb; clear hb) | (go_at_call 90; with_reducible refine (H.out.2 _).mono ?_; rintro e w1 ⟨rfl, hb⟩; replace hS := hS.call hb; clear hb))
    exact st_post hS 4 23 rfl rfl rfl (by repeat (first | exact At.head | apply At.tail)) word_type rfl word_size (wf_size _) (fun hb => ⟨rfl, hb⟩)
  · have hb := fun w => below_out k 256 256 rfl (by decide) hk h w
    rw [show shrN k x = 0 from if_neg h]
    have H := Lib.hid (And.intro hb trivial)
    clear hb h hk hx
    have hS := St.start w
    go_enter Try.func50, Try.ntmps50
    go_wp2_with (first | (refine st_box hS rfl _ _ rfl rfl ?_; clear hS; intro w1 b1 hS) | (refine st_new hS rfl 23 rfl word_zero ?_; clear hS; intro w1 b1 hS) | (refine st_load hS rfl 23 _ rfl rfl (by repeat (first | exact At.head | apply At.tail)) word_type rfl word_size (wf_size _) ?_) | (refine st_store (c' := wcells 0) hS rfl 23 _ _ rfl rfl word_lit_eq (by repeat (first | exact Upd.head | apply Upd.tail)) word_size (wf_size _) (wf_size _) (wf_one _) ?_; clear hS; intro w1 hS) | (go_at_call 86; with_reducible refine (H.out.1 _).mono ?_; rintro e w1 ⟨rfl, hb⟩; replace hS := hS.call hb; clear hb))
    exact st_post hS 4 23 rfl rfl rfl (by repeat (first | exact At.head | apply At.tail)) word_type rfl word_size (wf_size _) (fun hb => ⟨rfl, hb⟩)
set_option maxHeartbeats 1000000 in
set_option maxRecDepth 100000 in
theorem Sar_any (k x : Nat) (hk : k < M256) (hx : x < M256) (w : World) :
    Calls Try.prog 52 #[.agg (wcells k), .agg (wcells x)] w fun e w' => e = .returned (.agg (wcells (sraN k x))) ∧ Below w.heap.size w w' := by
  by_cases h : k < 256
  · have hb := fun w => below_in k 256 256 rfl (by decide) h w
    have hc := fun w => sar_any k x h hx w
    rw [show sraN k x = _ from if_pos h]
    have H := Lib.hid (And.intro hb hc)
    clear hb hc h hk hx
    have hS := St.start w
    go_enter Try.func52, Try.ntmps52
    go_wp2_with (first | (refine st_box hS rfl _ _ rfl rfl ?_; clear hS; intro w1 b1 hS) | (refine st_new hS rfl 23 rfl word_zero ?_; clear hS; intro w1 b1 hS) | (refine st_load hS rfl 23 _ rfl rfl (by repeat (first | exact At.head | apply At.tail)) word_type rfl word_size (wf_size _) ?_) | (refine st_store hS rfl 23 _ _ rfl rfl rfl (by repeat (first | exact Upd.head | apply Upd.tail)) word_size (wf_size _) (wf_size _) (wf_one _) ?_; clear hS; intro w1 hS) | (go_at_call 86; with_reducible refine (H.out.1 _).mono ?_; rintro e w1 ⟨rfl, hb⟩; replace hS := hS.call hb; clear hb) | (go_at_call 91; with_reducible refine (H.out.2 _).mono ?_; rintro e w1 ⟨rfl, hb⟩; replace hS := hS.call hb; clear hb))
    exact st_post hS 4 23 rfl rfl rfl (by repeat (first | exact At.head | apply At.tail)) word_type rfl word_size (wf_size _) (fun hb => ⟨rfl, hb⟩)
  · have hb := fun w => below_out k 256 256 rfl (by decide) hk h w
    rw [show sraN k x = sarN 255 x from if_neg h]
    have hc := fun w => sar_255 x hx w
    have H := Lib.hid (And.intro hb hc)
    clear hc
    clear hb h hk hx
    have hS := St.start w
    go_enter Try.func52, Try.ntmps52
    go_wp2_with (first | (refine st_box hS rfl _ _ rfl rfl ?_; clear hS; intro w1 b1 hS) | (refine st_new hS rfl 23 rfl word_zero ?_; clear hS; intro w1 b1 hS) | (refine st_load hS rfl 23 _ rfl rfl (by repeat (first | exact At.head | apply At.tail)) word_type rfl word_size (wf_size _) ?_) | (refine st_store hS rfl 23 _ _ rfl rfl rfl (by repeat (first | exact Upd.head | apply Upd.tail)) word_size (wf_size _) (wf_size _) (wf_one _) ?_; clear hS; intro w1 hS) | (go_at_call 86; with_reducible refine (H.out.1 _).mono ?_; rintro e w1 ⟨rfl, hb⟩; replace hS := hS.call hb; clear hb) | (go_at_call 91; with_reducible refine (H.out.2 _).mono ?_; rintro e w1 ⟨rfl, hb⟩; replace hS := hS.call hb; clear hb))
    exact st_post hS 4 23 rfl rfl rfl (by repeat (first | exact At.head | apply At.tail)) word_type rfl word_size (wf_size _) (fun hb => ⟨rfl, hb⟩)
set_option maxHeartbeats 1000000 in
set_option maxRecDepth 100000 in
theorem Byte_any (k x : Nat) (hk : k < M256) (w : World) :
    Calls Try.prog 46 #[.agg (wcells k), .agg (wcells x)] w fun e w' => e = .returned (.agg (wcells (bytN k x))) ∧ Below w.heap.size w w' := by
  by_cases h : k < 32
  · have hb := fun w => below_in k 32 32 rfl (by decide) h w
    have hl := byt_lt x k
    have hc := fun w => of_any (byt x k : Nat) (by omega) w
    rw [wint_nat (show byt x k < M256 by unfold M256; omega)] at hc
    rw [show bytN k x = _ from if_pos h]
    have hg := wf_get (f := byt x) h
    obtain ⟨v, hv⟩ : ∃ v, v = byt x k := ⟨_, rfl⟩
    rw [← hv] at hc hg hl ⊢
    have H := Lib.hid (And.intro hb (And.intro hc hg))
    clear hb hc hk hg hv
    have hS := St.start w
    go_enter Try.func46, Try.ntmps46
    go_wp2_with (first | (refine st_box hS rfl _ _ rfl rfl ?_; clear hS; intro w1 b1 hS) | (refine st_new hS rfl 23 rfl word_zero ?_; clear hS; intro w1 b1 hS) | (refine st_load hS rfl 23 _ rfl rfl (by repeat (first | exact At.head | apply At.tail)) word_type rfl word_size (wf_size _) ?_) | (refine st_store hS rfl 23 _ _ rfl rfl rfl (by repeat (first | exact Upd.head | apply Upd.tail)) word_size (wf_size _) (wf_size _) (wf_one _) ?_; clear hS; intro w1 hS) | (refine st_cell hS rfl 5 _ rfl rfl (by repeat (first | exact At.head | apply At.tail)) H.out.2.2 u8_agg ?_) | (go_at_call 86; with_reducible refine (H.out.1 _).mono ?_; rintro e w1 ⟨rfl, hb⟩; replace hS := hS.call hb; clear hb) | (go_at_call 58; with_reducible refine (H.out.2.1 _).mono ?_; rintro e w1 ⟨rfl, hb⟩; replace hS := hS.call hb; clear hb))
    exact st_post hS 4 23 rfl rfl rfl (by repeat (first | exact At.head | apply At.tail)) word_type rfl word_size (wf_size _) (fun hb => ⟨rfl, hb⟩)
  · have hb := fun w => below_out k 32 32 rfl (by decide) hk h w
    rw [show bytN k x = 0 from if_neg h]
    have H := Lib.hid (And.intro hb trivial)
    clear hb h hk
    have hS := St.start w
    go_enter Try.func46, Try.ntmps46
    go_wp2_with (first | (refine st_box hS rfl _ _ rfl rfl ?_; clear hS; intro w1 b1 hS) | (refine st_new hS rfl 23 rfl word_zero ?_; clear hS; intro w1 b1 hS) | (refine st_load hS rfl 23 _ rfl rfl (by repeat (first | exact At.head | apply At.tail)) word_type rfl word_size (wf_size _) ?_) | (refine st_store (c' := wcells 0) hS rfl 23 _ _ rfl rfl word_lit_eq (by repeat (first | exact Upd.head | apply Upd.tail)) word_size (wf_size _) (wf_size _) (wf_one _) ?_; clear hS; intro w1 hS) | (go_at_call 86; with_reducible refine (H.out.1 _).mono ?_; rintro e w1 ⟨rfl, hb⟩; replace hS := hS.call hb; clear hb))
    exact st_post hS 4 23 rfl rfl rfl (by repeat (first | exact At.head | apply At.tail)) word_type rfl word_size (wf_size _) (fun hb => ⟨rfl, hb⟩)
set_option maxHeartbeats 1000000 in
set_option maxRecDepth 100000 in
theorem Extend_any (k x : Nat) (hk : k < M256) (hx : x < M256) (w : World) :
    Calls Try.prog 54 #[.agg (wcells k), .agg (wcells x)] w fun e w' => e = .returned (.agg (wcells (extN k x))) ∧ Below w.heap.size w w' := by
  by_cases h : k < 31
  · have hb := fun w => below_in k 31 31 rfl (by decide) h w
    obtain ⟨m, hm⟩ : ∃ m, m = 31 - k := ⟨_, rfl⟩
    obtain ⟨n, hn⟩ : ∃ n, n = 8 * (31 - k) := ⟨_, rfl⟩
    have e1 : (31 : Int) - (k : Int) = (m : Int) := by omega
    have e2 : 8 * (m : Int) = (n : Int) := by omega
    have hm2 : m < 32 := by omega
    have hc := fun w => shl_mod n x (by omega) hx w
    obtain ⟨y, hy⟩ : ∃ y, y = x * 2 ^ n % M256 := ⟨_, rfl⟩
    rw [← hy] at hc
    have hd := fun w => sar_any n y (by omega) (by rw [hy]; exact Nat.mod_lt _ M256_pos) w
    rw [show extN k x = _ from if_pos h, ← hn, ← hy]
    have hn2 : n < 256 := by omega
    have H := Lib.hid (And.intro hb (And.intro hc hd))
    clear hb hc hd hk hx hy hn hm
    have hS := St.start w
    go_enter Try.func54, Try.ntmps54
    go_wp2_with (first | (refine st_box hS rfl _ _ rfl rfl ?_; clear hS; intro w1 b1 hS) | (refine st_new hS rfl 23 rfl word_zero ?_; clear hS; intro w1 b1 hS) | (refine st_load hS rfl 23 _ rfl rfl (by repeat (first | exact At.head | apply At.tail)) word_type rfl word_size (wf_size _) ?_) | (refine st_store hS rfl 23 _ _ rfl rfl rfl (by repeat (first | exact Upd.head | apply Upd.tail)) word_size (wf_size _) (wf_size _) (wf_one _) ?_; clear hS; intro w1 hS) | (go_at_call 86; with_reducible refine (H.out.1 _).mono ?_; rintro e w1 ⟨rfl, hb⟩; replace hS := hS.call hb; clear hb) | (go_at_call 88; with_reducible refine (H.out.2.1 _).mono ?_; rintro e w1 ⟨rfl, hb⟩; replace hS := hS.call hb; clear hb) | (go_at_call 91; with_reducible refine (H.out.2.2 _).mono ?_; rintro e w1 ⟨rfl, hb⟩; replace hS := hS.call hb; clear hb))
    exact st_post hS 4 23 rfl rfl rfl (by repeat (first | exact At.head | apply At.tail)) word_type rfl word_size (wf_size _) (fun hb => ⟨rfl, hb⟩)
  · have hb := fun w => below_out k 31 31 rfl (by decide) hk h w
    rw [show extN k x = x from if_neg h]
    have H := Lib.hid (And.intro hb trivial)
    clear hb h hk hx
    have hS := St.start w
    go_enter Try.func54, Try.ntmps54
    go_wp2_with (first | (refine st_box hS rfl _ _ rfl rfl ?_; clear hS; intro w1 b1 hS) | (refine st_new hS rfl 23 rfl word_zero ?_; clear hS; intro w1 b1 hS) | (refine st_load hS rfl 23 _ rfl rfl (by repeat (first | exact At.head | apply At.tail)) word_type rfl word_size (wf_size _) ?_) | (refine st_store hS rfl 23 _ _ rfl rfl rfl (by repeat (first | exact Upd.head | apply Upd.tail)) word_size (wf_size _) (wf_size _) (wf_one _) ?_; clear hS; intro w1 hS) | (go_at_call 86; with_reducible refine (H.out.1 _).mono ?_; rintro e w1 ⟨rfl, hb⟩; replace hS := hS.call hb; clear hb))
    exact st_post hS 4 23 rfl rfl rfl (by repeat (first | exact At.head | apply At.tail)) word_type rfl word_size (wf_size _) (fun hb => ⟨rfl, hb⟩)
end Go.Proofs.Ytcdjinjeogodfaa
