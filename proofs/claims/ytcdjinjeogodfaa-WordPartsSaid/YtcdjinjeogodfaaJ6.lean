/- How words stand to each other: Cmp, flipSign, SCmp. -/
import Derived.Test.YtcdjinjeogodfaaG
import Derived.Lib.BytesEntry
import Derived.Test.YtcdjinjeogodfaaJ5
namespace Go.Proofs.Ytcdjinjeogodfaa
open Go.RowKit

theorem q_val {o : Oper} {a : Act} {ops : Array Oper} {rest : List Oper} {C : World → Prop} {Q : Act → Prop} {v : Value} (hw : Region.wanted o (yielded ops a.tmps) = true) (xo : Operand) (ho : o.op = .move xo ∨ o.op = .assign xo) (hx : a.eval xo = v)
    (h : wpQuiet Try.prog ops C Q rest (a.put o.dst v)) : wpQuiet Try.prog ops C Q (o :: rest) a :=
  q_pure hw (fun w => by unfold execOp; rcases ho with ho | ho <;> simp only [ho, hx] <;> rfl) h
/-- How two numbers stand to each other. -/
def cmpN (x y : Nat) : Int := if x < y then -1 else if y < x then 1 else 0
/-- The number that a list of bytes spells, the highest first. -/
def val : List UInt8 → Nat
  | [] => 0
  | a :: l => a.toNat * 256 ^ l.length + val l
theorem val_lt : ∀ l : List UInt8, val l < 256 ^ l.length
  | [] => by simp [val]
  | a :: l => by
    have h := val_lt l
    have ha := a.toNat_lt
    unfold val
    rw [List.length_cons, Nat.pow_succ]
    have h1 : a.toNat * 256 ^ l.length ≤ 255 * 256 ^ l.length := Nat.mul_le_mul_right _ (by omega)
    omega
theorem compareBytes_val : ∀ l m : List UInt8, l.length = m.length → Lib.compareBytes l m = cmpN (val l) (val m)
  | [], [], _ => rfl
  | [], _ :: _, h => by simp at h
  | _ :: _, [], h => by simp at h
  | a :: l, b :: m, h => by
    have hl : l.length = m.length := by simpa using h
    have ih := compareBytes_val l m hl
    have h1 := val_lt l
    have h2 := val_lt m
    unfold Lib.compareBytes val
    rw [hl] at h1
    rw [ih, hl]
    clear ih
    generalize 256 ^ m.length = P at *
    by_cases hab : a < b
    · rw [if_pos hab]
      have : a.toNat + 1 ≤ b.toNat := UInt8.lt_iff_toNat_lt.1 hab
      have h3 : (a.toNat + 1) * P ≤ b.toNat * P := Nat.mul_le_mul_right _ this
      rw [Nat.add_mul] at h3
      unfold cmpN
      rw [if_pos (by omega)]
    · rw [if_neg hab]
      by_cases hba : b < a
      · rw [if_pos hba]
        have : b.toNat + 1 ≤ a.toNat := UInt8.lt_iff_toNat_lt.1 hba
        have h3 : (b.toNat + 1) * P ≤ a.toNat * P := Nat.mul_le_mul_right _ this
        rw [Nat.add_mul] at h3
        unfold cmpN
        rw [if_neg (by omega), if_pos (by omega)]
      · rw [if_neg hba]
        have h3 : ¬ a.toNat < b.toNat := fun h => hab (UInt8.lt_iff_toNat_lt.2 h)
        have h4 : ¬ b.toNat < a.toNat := fun h => hba (UInt8.lt_iff_toNat_lt.2 h)
        have h5 : a.toNat = b.toNat := by omega
        rw [h5]
        unfold cmpN
        simp only [Nat.add_lt_add_iff_left]
theorem val_range (x : Nat) : ∀ n, val ((List.range n).map fun i => UInt8.ofNat (x / 256 ^ (n - 1 - i) % 256)) = x % 256 ^ n
  | 0 => by simp [val, Nat.mod_one]
  | n + 1 => by
    have ih := val_range x n
    rw [List.range_succ_eq_map, List.map_cons, List.map_map]
    have e : ((fun i => UInt8.ofNat (x / 256 ^ (n + 1 - 1 - i) % 256)) ∘ Nat.succ) = fun i => UInt8.ofNat (x / 256 ^ (n - 1 - i) % 256) := by
      funext i
      simp only [Function.comp]
      rw [show n + 1 - 1 - i.succ = n - 1 - i by omega]
    rw [e]
    unfold val
    rw [ih, List.length_map, List.length_range, Nat.pow_succ, Nat.mod_mul]
    have : (UInt8.ofNat (x / 256 ^ (n + 1 - 1 - 0) % 256)).toNat = x / 256 ^ n % 256 := by
      rw [show n + 1 - 1 - 0 = n by omega]
      simp
    rw [this, Nat.mul_comm]
    omega
theorem val_word {x : Nat} (hx : x < M256) : val (bytesOf x) = x := by
  have h := val_range x 32
  have e : bytesOf x = (List.range 32).map fun i => UInt8.ofNat (x / 256 ^ (32 - 1 - i) % 256) := by
    unfold bytesOf
    apply List.map_congr_left
    intro i _
    unfold byt
    rw [Nat.pow_mul]
  rw [e, h]
  exact Nat.mod_eq_of_lt hx
theorem bytesOf_len (x : Nat) : (bytesOf x).length = 32 := by simp [bytesOf]
theorem compare_word {x y : Nat} (hx : x < M256) (hy : y < M256) : Lib.compareBytes (bytesOf x) (bytesOf y) = cmpN x y := by
  rw [compareBytes_val _ _ (by rw [bytesOf_len, bytesOf_len]), val_word hx, val_word hy]
theorem load_word {w : World} {b x : Nat} {t : TypeId} (h : Blk w b t (wcells x)) (P : Program) : (Extern.Bytes.loadBytes ⟨b, 0, none⟩ 32 .empty).run P w = .ok ⟨(bytesOf x).toArray⟩ w := by
  have hl := Lib.run_loadBytesX (P := P) w ((List.range 32).map fun i => ((byt x i : Nat) : Int)) ⟨b, 0, none⟩ .empty (fun j v hj => by
    have hj' : j < 32 := by
      have := (List.getElem?_eq_some_iff.1 hj).1
      simpa using this
    have e : (⟨b, 0, none⟩ : Addr).add j = ⟨b, j, none⟩ := by unfold Addr.add; split <;> simp_all
    rw [e, h.cell (wf_get hj')]
    simp [hj'] at hj
    rw [hj])
  rw [show ((List.range 32).map fun i => ((byt x i : Nat) : Int)).length = 32 by simp] at hl
  rw [hl]
  refine congrArg (fun z => Result.ok z w) ?_
  apply ByteArray.ext
  show (#[] : Array UInt8) ++ (Lib.bytesOf ((List.range 32).map fun i => ((byt x i : Nat) : Int))).toArray = (bytesOf x).toArray
  rw [Array.empty_append]
  refine congrArg List.toArray ?_
  unfold Lib.bytesOf bytesOf
  rw [List.map_map]
  rfl
theorem run_compare {w : World} {b b' x y c c' : Nat} {t t' : TypeId} (h : Blk w b t (wcells x)) (h' : Blk w b' t' (wcells y)) (hx : x < M256) (hy : y < M256) :
    (callFunc 108 #[.slice (some ⟨b, 0, none⟩) 32 c, .slice (some ⟨b', 0, none⟩) 32 c']).run Try.prog w = .ok (.value (.int .i64 (cmpN x y))) w := by
  rw [run_callFunc_extern Try.func108 (by kernel_rfl) (by kernel_rfl) (by kernel_rfl) (e := Extern.BytealgCompare.compare) (by kernel_rfl)]
  have e : (Extern.BytealgCompare.compare #[.slice (some ⟨b, 0, none⟩) 32 c, .slice (some ⟨b', 0, none⟩) 32 c']).run Try.prog w = .ok (.int .i64 (cmpN x y)) w := by
    change Sem.run Try.prog (do pure (goInt (Extern.BytealgCompare.cmp (← Extern.Bytes.loadBytes ⟨b, 0, none⟩ 32 .empty) (← Extern.Bytes.loadBytes ⟨b', 0, none⟩ 32 .empty)))) w = _
    simp only [Sem.run_bind, load_word h, load_word h', Result.andThen, Sem.run_pure]
    rw [Lib.cmp_eq]
    show Result.ok (goInt (Lib.compareBytes (bytesOf x) (bytesOf y))) w = _
    rw [compare_word hx hy]
    rfl
  rw [e]
  rfl
set_option maxHeartbeats 1000000 in
set_option maxRecDepth 100000 in
theorem Compare_any (x y b b' c c' : Nat) (t t' : TypeId) (hx : x < M256) (hy : y < M256) (w : World) (h : Blk w b t (wcells x)) (h' : Blk w b' t' (wcells y)) :
    Calls Try.prog 93 #[.slice (some ⟨b, 0, none⟩) 32 c, .slice (some ⟨b', 0, none⟩) 32 c'] w fun e w' => e = .returned (.int .i64 (cmpN x y)) ∧ Below w.heap.size w w' := by
  have hr := run_compare (c := c) (c' := c') h h' hx hy
  clear h h' hx hy
  go_enter Try.func93, Try.ntmps93
  go_wp2
  go_ret
  exact ⟨rfl, Below.refl _ _⟩
set_option maxHeartbeats 1000000 in
set_option maxRecDepth 100000 in
theorem Cmp_any (x y : Nat) (hx : x < M256) (hy : y < M256) (w : World) :
    Calls Try.prog 59 #[.agg (wcells x), .agg (wcells y)] w fun e w' => e = .returned (.int .i64 (cmpN x y)) ∧ Below w.heap.size w w' := by
  have H := Lib.hid (And.intro hx hy)
  clear hx hy
  have hS := St.start w
  go_enter Try.func59, Try.ntmps59
  go_wp2_with (first | (refine st_box hS rfl _ _ rfl rfl ?_; clear hS; intro w1 b1 hS))
  refine wp_region_all (C := fun w' => St w w' _) (by kernel_rfl) (by kernel_rfl) hS.drew ?_
  repeat (refine wpQuiet_step (fun K hK => ?_); go_simp; first | (refine ⟨_, fun _ _ => rfl, hK _ ?_⟩; clear hK K) | (refine hK _ ?_; clear hK K) | (apply Exists.intro; refine ⟨fun w hw => ?_, hK _ ?_⟩; (go_at_call 93; exact q_of hw (Compare_any x y _ _ _ _ _ _ H.out.1 H.out.2 _ (hw.get (by repeat (first | with_reducible exact At.head | apply At.tail))) (hw.get (by repeat (first | with_reducible exact At.head | apply At.tail))))); clear hK K))
  refine wpQuiet_nil ?_
  clear hS
  intro w1 hS
  go_wp2
  go_ret
  exact ⟨rfl, hS.below⟩
/-- The sign's bit turned. -/
def flipN (x : Nat) : Nat := (x + 2 ^ 255) % M256
theorem flipN_lt (x : Nat) : flipN x < M256 := Nat.mod_lt _ (by unfold M256; decide)
set_option maxRecDepth 100000 in
theorem xor_128 : ∀ b : Fin 256, (b.val ^^^ 128 : Nat) = (b.val + 128) % 256 := by decide
theorem byt_flip (x i : Nat) (hi : i < 32) : byt (flipN x) i = if i = 0 then (byt x 0 + 128) % 256 else byt x i := by
  unfold byt flipN
  obtain ⟨k, hk⟩ : ∃ k, k = 8 * (31 - i) := ⟨_, rfl⟩
  rw [← hk]
  have e1 : (2 : Nat) ^ 255 = 2 ^ k * 2 ^ (255 - k) := by rw [← Nat.pow_add]; congr 1; omega
  have e2 : M256 = 2 ^ k * (2 * 2 ^ (255 - k)) := by
    rw [show 2 ^ k * (2 * 2 ^ (255 - k)) = 2 * (2 ^ k * 2 ^ (255 - k)) by rw [Nat.mul_left_comm], ← e1]; rfl
  rw [e1, e2, Nat.mod_mul_right_div_self, Nat.add_mul_div_left _ _ (Nat.two_pow_pos k)]
  by_cases h0 : i = 0
  · subst h0
    rw [if_pos rfl]
    have hk' : k = 248 := by omega
    subst hk'
    have : 2 * 2 ^ (255 - 248) = 256 := by decide
    rw [this]
    omega
  · rw [if_neg h0]
    have hd : (256 : Nat) ∣ 2 * 2 ^ (255 - k) := by
      refine ⟨2 ^ (255 - k - 7), ?_⟩
      rw [show (256 : Nat) = 2 * 2 ^ 7 by decide, Nat.mul_assoc, ← Nat.pow_add]
      congr 2; omega
    have hd2 : (256 : Nat) ∣ 2 ^ (255 - k) := by
      refine ⟨2 ^ (255 - k - 8), ?_⟩
      rw [show (256 : Nat) = 2 ^ 8 by decide, ← Nat.pow_add]
      congr 1; omega
    rw [Nat.mod_mod_of_dvd _ hd, Nat.add_mod, Nat.mod_eq_zero_of_dvd hd2, Nat.add_zero, Nat.mod_mod]
theorem flip_set (x : Nat) : (wcells x).setIfInBounds 0 (.int .u8 (((byt x 0 + 128) % 256 : Nat) : Int)) = wcells (flipN x) := by
  rw [wf_set (by decide)]
  unfold wcells wf
  congr 1
  apply List.map_congr_left
  intro i hi
  have hi' : i < 32 := by simpa using hi
  rw [byt_flip x i hi']
set_option maxHeartbeats 1000000 in
set_option maxRecDepth 100000 in
theorem flipSign_any (x : Nat) (w : World) :
    Calls Try.prog 95 #[.agg (wcells x)] w fun e w' => e = .returned (.agg (wcells (flipN x))) ∧ Below w.heap.size w w' := by
  have hl := byt_lt x 0
  have hg : (wcells x)[0]? = some (.int .u8 ((byt x 0 : Nat) : Int)) := wf_get (by decide)
  have hs : (wcells x).setIfInBounds 0 (.int .u8 (bits BinOp.xor IntKind.u8 ((byt x 0 : Nat) : Int) 128)) = wcells (flipN x) := by
    rw [show bits BinOp.xor IntKind.u8 ((byt x 0 : Nat) : Int) 128 = (((byt x 0 ^^^ 128 : Nat)) : Int) from u8_xor_nat (byt x 0) 128 hl (by decide), xor_128 ⟨byt x 0, hl⟩]
    exact flip_set x
  obtain ⟨v, hv⟩ : ∃ v, v = byt x 0 := ⟨_, rfl⟩
  rw [← hv] at hg hl hs
  have H := Lib.hid (And.intro hs hg)
  clear hv hs hg
  have hS := St.start w
  go_enter Try.func95, Try.ntmps95
  go_wp2_with (first | (refine st_box hS rfl _ _ rfl rfl ?_; clear hS; intro w1 b1 hS) | (refine st_new hS rfl 23 rfl word_zero ?_; clear hS; intro w1 b1 hS) | (refine st_cell hS rfl 5 _ rfl rfl (by repeat (first | with_reducible exact At.head | apply At.tail)) H.out.2 u8_agg ?_) | (refine st_store1 (j := 0) hS rfl 5 _ _ rfl rfl rfl u8_size (by repeat (first | with_reducible exact Upd.head | apply Upd.tail)) (by rw [wf_size]; decide) ?_; clear hS; intro w1 hS; rw [H.out.1] at hS) | (refine st_load hS rfl 23 _ rfl rfl (by repeat (first | with_reducible exact At.head | apply At.tail)) word_type rfl word_size (wf_size _) ?_) | (refine st_store hS rfl 23 _ _ rfl rfl rfl (by repeat (first | with_reducible exact Upd.head | apply Upd.tail)) word_size (wf_size _) (wf_size _) (wf_one _) ?_; clear hS; intro w1 hS))
  exact st_post hS 2 23 rfl rfl rfl (by repeat (first | with_reducible exact At.head | apply At.tail)) word_type rfl word_size (wf_size _) (fun hb => ⟨rfl, hb⟩)
set_option maxHeartbeats 1000000 in
set_option maxRecDepth 100000 in
theorem SCmp_any (x y : Nat) (hx : x < M256) (hy : y < M256) (w : World) :
    Calls Try.prog 61 #[.agg (wcells x), .agg (wcells y)] w fun e w' => e = .returned (.int .i64 (cmpN (flipN x) (flipN y))) ∧ Below w.heap.size w w' := by
  have hS := St.start w
  go_enter Try.func61, Try.ntmps61
  go_wp2_with (first | (refine st_box hS rfl _ _ rfl rfl ?_; clear hS; intro w1 b1 hS))
  refine wp_region_all (C := fun w' => St w w' _) (by kernel_rfl) (by kernel_rfl) hS.drew ?_
  repeat (first | (refine q_load rfl 23 _ rfl rfl (by repeat (first | exact At.head | apply At.tail)) word_type rfl word_size (wf_size _) ?_; try simp only [Act.put, List.setIfInBounds_toArray, List.set_cons_zero, List.set_cons_succ]) | (refine q_val rfl _ (.inr rfl) rfl ?_; try simp only [Act.put, List.setIfInBounds_toArray, List.set_cons_zero, List.set_cons_succ]) | (refine q_bool rfl _ rfl rfl ?_; try simp only [Act.put, List.setIfInBounds_toArray, List.set_cons_zero, List.set_cons_succ]) | (refine q_boolm rfl _ rfl rfl ?_; try simp only [Act.put, List.setIfInBounds_toArray, List.set_cons_zero, List.set_cons_succ]) | (refine q_pick rfl _ _ _ rfl rfl rfl ?_; try simp only [Act.put, List.setIfInBounds_toArray, List.set_cons_zero, List.set_cons_succ]) | (refine wpQuiet_step (fun K hK => ?_); go_simp; first | (refine hK _ ?_; clear hK K) | (apply Exists.intro; refine ⟨fun w hw => ?_, hK _ ?_⟩; (first | (go_at_call 95; exact q_of hw (flipSign_any _ _)) | (go_at_call 59; exact q_of hw (Cmp_any _ _ (flipN_lt _) (flipN_lt _) _))); clear hK K)))
  refine wpQuiet_nil ?_
  clear hS
  intro w1 hS

  go_wp2
  go_ret
  exact ⟨rfl, hS.below⟩
end Go.Proofs.Ytcdjinjeogodfaa
