/- The document's ReadWord and ReadAddr. -/
import Derived.Test.YtbmlglnfhapceaaH9
import Derived.Laws.CopyOwn
namespace Go.Proofs.Ytbmlglnfhapceaa
open Go.RowKit

theorem nb_bc (l : List Nat) : (nb l).toArray = bc l.length (fun i => l.getD i 0) := by
  apply Array.ext_getElem?
  intro i
  by_cases h : i < l.length
  · rw [bc_get h, List.getElem?_toArray, nb_get h]
  · rw [bc_none (by omega), List.getElem?_toArray, List.getElem?_eq_none (by rw [nb_length]; omega)]
/-- Bytes are copied over a whole array of bytes. -/
theorem st_copyAll {ops : Array Oper} {rest : List Oper} {o : Oper} {a : Act} {bs : List Nat} {w0 w : World} {Q : Exit → Act → World → Prop} {L L' : List Ent} {b n : Nat} {t : TypeId} {g : Nat → Nat} {v : Value} {l : List Nat} (hS : St bs w0 w L) (hgd : o.guard = none) (d s : Operand)
    (ho : o.op = .call { callee := .builtin .copy, args := #[d, s], argTypes := #[23, 23] }) (hd : a.eval d = .slice (some ⟨b, 0, none⟩) n n) (hs : a.eval s = v) (hv : RdB w v l) (hl : l.length = n) (hn : 0 < n)
    (m : Upd L b t (bc n g) (bc n fun i => l.getD i 0) L') (h : ∀ w', St bs w0 w' L' → wpList Try.prog ops Q rest (a.put o.dst (goInt n)) w') : wpList Try.prog ops Q (o :: rest) a w := by
  obtain ⟨p, c, rfl, h2, h3, h4⟩ := hv
  obtain ⟨pb, po, rfl, h6, h7⟩ := h4 (by intro e; subst e; simp at hl; omega)
  have hb := hS.get m.at_
  refine wpList_copy_own hgd d s 23 23 ho 5 bytes_ty u8_size b 0 n n ⟨pb, po, none⟩ l.length c hd hs (bc n g) t hb (nb l) (by rw [nb_length, hl]; exact (Nat.min_self n).symm) (fun j u hj => ?_) (by rw [nb_length, bc_size]; omega) (fun u hu => ?_) ?_
  · have hj' : j < l.length := by
      have := (List.getElem?_eq_some_iff.1 hj).1
      rwa [nb_length] at this
    have hadd : (⟨pb, po, none⟩ : Addr).add j = ⟨pb, po + j, none⟩ := by unfold Addr.add; split <;> simp_all
    rw [hadd, h7 j hj', ← nb_get hj', hj]
  · obtain ⟨x, _, rfl⟩ := List.mem_map.1 hu; rfl
  · rw [nb_length, hl]
    have e : ((bc n g).toList.take 0 ++ (nb l ++ (bc n g).toList.drop (0 + n))).toArray = bc n fun i => l.getD i 0 := by
      rw [List.take_zero, List.nil_append, List.drop_eq_nil_of_le (by simp [bc_size]), List.append_nil, nb_bc, hl]
    rw [e]
    exact h _ (hS.upd m (Only.setRow _ _ _) (hb.row _))
/-- A variable is made; what was there is as it was. -/
theorem st_newT {P : Program} {ops : Array Oper} {rest : List Oper} {o : Oper} {a : Act} {bs : List Nat} {w0 w : World} {Q : Exit → Act → World → Prop} {L : List Ent} {c : Array Value} (hS : St bs w0 w L) (hgd : o.guard = none) (ty : TypeId) (ho : o.op = .alloc ty) (hz : (P.info? ty).bind (·.zero) = some (.agg c))
    (h : ∀ w' b, St bs w0 w' ((b, ty, c) :: L) → Tch [] w w' → wpList P ops Q rest (a.put o.dst (.pointer (some ⟨b, 0, none⟩))) w') : wpList P ops Q (o :: rest) a w :=
  wpList_plain hgd fun K hK => by
    have hr : (Instr.alloc ty true (.tuple #[])).run P w = .ok (.pointer (some ⟨w.heap.size, 0, none⟩)) (w.alloc (.cells c ty)) := by
      cases hq : P.info? ty with
      | none => simp [hq] at hz
      | some i =>
        have hz' : i.zero = some (.agg c) := by simpa [hq] using hz
        simp [Instr.alloc, zeroValue, typeInfo, hq, hz', newVar, newRow, Value.cells]
    unfold Oper.wp execOp
    simp only [ho, Sem.run_bind, hr, Result.andThen_ok, Sem.run_pure]
    exact hK _ _ (h _ _ (hS.new ty c) ((Tch.refl [] w).alloc _))
theorem one_app (u : ByteArray) : (⟨#[48]⟩ ++ u : ByteArray).size = 1 + u.size := by
  rw [size_data, app_data, List.length_append, ← size_data u]; rfl
/-- The text of a word's digits, with noughts ahead. -/
def padS (s : ByteArray) : ByteArray := ⟨(48 :: 120 :: pad (64 - (tl s).length) (tl s)).toArray⟩
theorem padS_data (s : ByteArray) : (padS s).data.toList = 48 :: 120 :: pad (64 - (tl s).length) (tl s) := by simp [padS]
theorem padS_tl (s : ByteArray) : tl (padS s) = pad (64 - (tl s).length) (tl s) := by unfold tl; rw [padS_data]; rfl
theorem padS_size (s : ByteArray) (h : (tl s).length ≤ 64) : (padS s).size = 66 := by rw [size_data, padS_data, List.length_cons, List.length_cons, pad_length]; omega
theorem padS_ok (s : ByteArray) (h : (tl s).length ≤ 64) : rdOk (padS s) = allHex (tl s) := by
  have h1 : px (padS s) = true := by unfold px; rw [padS_data]; rfl
  have h2 : ((padS s).size % 2 == 0) = true := by rw [padS_size s h]; rfl
  unfold rdOk
  rw [h1, h2, padS_data]
  show (true && true && allHex (pad _ _)) = _
  rw [allHex_pad]; rfl
theorem wVal_hex (s : ByteArray) (h : (tl s).length ≤ 64) (ha : allHex (tl s) = true) : hexOf (wl (wVal s)) = pad (64 - (tl s).length) (tl s) := by
  have e : wl (wVal s) = prs (pad (64 - (tl s).length) (tl s)) 32 := prs_range _ _
  rw [e, hexOf_prs _ (by rw [allHex_pad]; exact ha) 32 (by rw [pad_length]; omega)]
theorem wVal_lt (s : ByteArray) (i : Nat) : wVal s i < 256 := prs_getD_lt _ _ _
theorem short_eq (s : ByteArray) (hp : px s = true) (h0 : tl s ≠ []) (h : (tl s).length ≤ 64) (ha : allHex (tl s) = true) : ((⟨(shortL (wVal s)).toArray⟩ : ByteArray).toList == s.toList) = slim (tl s) := by
  rw [ByteArray.toList_eq, ByteArray.toList_eq]
  have hs : s.data.toList = 48 :: 120 :: tl s := by
    unfold px at hp
    have := beq_iff_eq.1 hp
    rw [← List.take_append_drop 2 s.data.toList, this]; rfl
  have e : (⟨(shortL (wVal s)).toArray⟩ : ByteArray).data.toList = shortL (wVal s) := by simp
  rw [e, hs, shortL, wVal_hex s h ha, strip_pad _ _ h0, Bool.eq_iff_iff, beq_iff_eq]
  constructor
  · intro hh
    exact (strip_eq_iff _ h0).1 (by simpa using hh)
  · intro hh
    rw [(strip_eq_iff _ h0).2 hh]
theorem tl_len {s : ByteArray} (h : 2 ≤ s.size) : (tl s).length + 2 = s.size := by unfold tl; rw [List.length_drop, ← size_data]; omega
set_option maxHeartbeats 2000000 in
set_option maxRecDepth 100000 in
theorem readWord_any (s : ByteArray) (w : World) (hm : s.size ≤ 1000000) :
    Calls Try.prog 11 #[.string s] w (ArrPost 32 w (wOk s) (wVal s) (.bool true) (.bool false)) := by
  have hS := St.start w
  have hsl := fun (b : Nat) (w1 : World) => slice_all (P := Try.prog) (b := b) word_type u8_size (by decide) w1
  have hpx := px_extract s
  by_cases h3 : 3 ≤ s.size
  · have hd3 : decide ((s.size : Int) < 3) = false := by simp; omega
    by_cases h66 : s.size ≤ 66
    · have hd66 : decide ((66 : Int) < s.size) = false := by simp; omega
      cases hp : px s with
      | false =>
        rw [hp] at hpx
        have HN := Lib.hid (show wOk s = false by unfold wOk; rw [hp]; rfl)
        clear hp
        go_enter Try.func11, Try.ntmps11
        go_wp2_with (first | (refine st_new hS rfl 30 rfl word_zero ?_; clear hS; intro w1 b2 hS) | (refine st_store (c' := bc 32 fun _ => 0) hS rfl 30 _ _ rfl rfl word_lit_eq (by repeat (first | exact Upd.head | apply Upd.tail)) word_size (bc_size _ _) (bc_size _ _) (bc_one _ _) ?_; clear hS; intro w1 hS))
        exact post_cell_one 2 3 30 rfl rfl rfl rfl (hS.get (by repeat (first | exact At.head | apply At.tail))) word_type rfl word_size (bc_size _ _) (arr_no HN.out hS.frame)
      | true =>
        rw [hp] at hpx
        have hlen := tl_len (s := s) (by omega)
        have hlen64 : (tl s).length ≤ 64 := by omega
        have h0 : tl s ≠ [] := by intro e; rw [e] at hlen; simp at hlen; omega
        have HP := Lib.hid (And.intro hp (And.intro hlen64 h0))
        have hrh := fun w1 => readHex_any (padS s) w1 (by rw [padS_size s hlen64]; omega)
        have hpz := padS_size s hlen64
        have HPZ := Lib.hid (And.intro hpz (And.intro (padS_ok s hlen64) hlen))
        clear hp hlen64 h0 hpz hlen
        go_enter Try.func11, Try.ntmps11
        go_wp2_with (first | (refine st_new hS rfl 30 rfl word_zero ?_; clear hS; intro w1 b2 hS))
        go_loop [4] (fun v => ∃ u : ByteArray, v = .string u ∧ u.size ≤ 64 ∧ Hid (∃ k, u.data.toList = pad k (tl s) ∧ k + (tl s).length = u.size)) (fun v => 64 - strLen v)
        case atStart =>
          refine ⟨_, rfl, by simp; omega, Lib.hid ⟨0, ?_, ?_⟩⟩
          · rw [tail_data, pad_zero]; rfl
          · have := HPZ.out.2.2; simp; omega
        case round =>
          obtain ⟨u, rfl, hu, HU⟩ := hrel
          by_cases hu64 : u.size < 64
          · go_wp2
            go_round
            case rel =>
              refine ⟨_, rfl, by rw [one_app]; omega, Lib.hid ?_⟩
              obtain ⟨k, hk1, hk2⟩ := HU.out
              exact ⟨k + 1, by rw [app_data, hk1, pad_succ]; rfl, by rw [one_app]; omega⟩
            case measure => have := one_app u; simp [strLen] at this ⊢; omega
          · have hpad : (⟨#[48, 120]⟩ ++ u : ByteArray) = padS s := str_eq (by
              obtain ⟨k, hk1, hk2⟩ := HU.out
              rw [app_data, hk1, show k = 64 - (tl s).length by omega]; rfl)
            cases hall : allHex (tl s) with
            | false =>
              have HN := Lib.hid (show wOk s = false by unfold wOk; rw [hall, Bool.and_false])
              have hrh2 := fun w1 => (hrh w1).mono (fun e w' h => (show e = .returned (.tuple #[.slice none 0 0, .bool false]) ∧ Tch [] w1 w' from ⟨by have h2 := h.2; rw [HPZ.out.2.1, hall, if_neg (by decide)] at h2; exact h2, h.1⟩))
              have HR := Lib.hid hrh2
              clear hrh hrh2 hall
              go_wp2_with (first | (go_at_call 9; refine (HR.out _).mono ?_; rintro e w2 ⟨rfl, hT⟩; replace hS := hS.call hT; clear hT) | (refine st_store (c' := bc 32 fun _ => 0) hS rfl 30 _ _ rfl rfl word_lit_eq (by repeat (first | exact Upd.head | apply Upd.tail)) word_size (bc_size _ _) (bc_size _ _) (bc_one _ _) ?_; clear hS; intro w1 hS))
              exact post_cell_one 2 3 30 rfl rfl rfl rfl (hS.get (by repeat (first | exact At.head | apply At.tail))) word_type rfl word_size (bc_size _ _) (arr_no HN.out hS.frame)
            | true =>
              have hrh2 := fun w1 => (hrh w1).mono (fun e w' h => (show ∃ v, e = .returned (.tuple #[v, .bool true]) ∧ RdB w' v (prs (tl (padS s)) 32) ∧ Tch [] w1 w' from by
                have h2 := h.2
                rw [HPZ.out.2.1, hall, if_pos rfl, HPZ.out.1] at h2
                obtain ⟨v, h3, h4⟩ := h2
                exact ⟨v, h3, h4, h.1⟩))
              have hsh := fun w1 => refShort_any (wVal s) (fun i _ => wVal_lt s i) w1
              obtain ⟨t, ht⟩ : ∃ t : ByteArray, t = ⟨(shortL (wVal s)).toArray⟩ := ⟨_, rfl⟩
              have hteq := short_eq s HP.out.1 HP.out.2.2 HP.out.2.1 hall
              rw [← ht] at hsh hteq
              have HR := Lib.hid (And.intro hrh2 hsh)
              clear hrh hrh2 hsh ht
              cases hslim : slim (tl s) with
              | false =>
                have HN := Lib.hid (show wOk s = false by unfold wOk; rw [hslim]; simp)
                rw [hslim] at hteq
                have hne : (t.toList != s.toList) = true := by rw [bne_iff_ne]; exact beq_eq_false_iff_ne.1 hteq
                clear hall hslim
                go_wp2_with (first | (go_at_call 9; refine (HR.out.1 _).mono ?_; rintro e w2 ⟨v, rfl, hv, hT⟩; replace hS := hS.call hT; clear hT) | (refine st_newT hS rfl 30 rfl word_zero ?_; clear hS; intro w3 b7 hS hT; replace hv := hv.tch hT (by simp); clear hT) | (refine st_copyAll hS rfl (.tmp 38) (.tmp 39) rfl rfl rfl hv ?_ (by decide) .head ?_; exact prs_length _ _; clear hS hv; intro w4 hS) | (refine st_load hS rfl 30 _ rfl rfl (by repeat (first | exact At.head | apply At.tail)) word_type rfl word_size (bc_size _ _) ?_) | (go_at_call 18; refine (HR.out.2 _).mono ?_; rintro e w5 ⟨rfl, hT⟩; replace hS := hS.call hT; clear hT) | (refine st_store (c' := bc 32 fun _ => 0) hS rfl 30 _ _ rfl rfl word_lit_eq (by repeat (first | exact Upd.head | apply Upd.tail)) word_size (bc_size _ _) (bc_size _ _) (bc_one _ _) ?_; clear hS; intro w1 hS))

                exact post_cell_one 2 3 30 rfl rfl rfl rfl (hS.get (by repeat (first | exact At.head | apply At.tail))) word_type rfl word_size (bc_size _ _) (arr_no HN.out hS.frame)
              | true =>
                have HO := Lib.hid (show wOk s = true by unfold wOk; rw [HP.out.1, hslim, hall, show decide ((tl s).length ≤ 64) = true by simpa using HP.out.2.1]; rfl)
                rw [hslim] at hteq
                have hne : (t.toList != s.toList) = false := by rw [bne_eq_false_iff_eq]; exact beq_iff_eq.1 hteq
                have HV := Lib.hid (show (bc 32 fun i => (prs (tl (padS s)) 32).getD i 0) = bc 32 (wVal s) by rw [padS_tl]; rfl)
                clear hall hslim
                go_wp2_with (first | (go_at_call 9; refine (HR.out.1 _).mono ?_; rintro e w2 ⟨v, rfl, hv, hT⟩; replace hS := hS.call hT; clear hT) | (refine st_newT hS rfl 30 rfl word_zero ?_; clear hS; intro w3 b7 hS hT; replace hv := hv.tch hT (by simp); clear hT) | (refine st_copyAll hS rfl (.tmp 38) (.tmp 39) rfl rfl rfl hv ?_ (by decide) .head ?_; exact prs_length _ _; clear hS hv; intro w4 hS) | (refine st_load hS rfl 30 _ rfl rfl (by repeat (first | exact At.head | apply At.tail)) word_type rfl word_size (bc_size _ _) ?_) | (go_at_call 18; refine (HR.out.2 _).mono ?_; rintro e w5 ⟨rfl, hT⟩; replace hS := hS.call hT; clear hT) | (refine st_store hS rfl 30 _ _ rfl rfl rfl (by repeat (first | exact Upd.head | apply Upd.tail)) word_size (bc_size _ _) (bc_size _ _) (bc_one _ _) ?_; clear hS; intro w1 hS))

                exact post_cell_one 2 3 30 rfl rfl rfl rfl (hS.get (by repeat (first | exact At.head | apply At.tail))) word_type rfl word_size (bc_size _ _) (arr_yes HO.out hS.frame HV.out)
    · have hd66 : decide ((66 : Int) < s.size) = true := by simp; omega
      have HN := Lib.hid (show wOk s = false by
        have := tl_len (s := s) (by omega)
        unfold wOk; rw [show decide ((tl s).length ≤ 64) = false by simp; omega]; simp)
      go_enter Try.func11, Try.ntmps11
      go_wp2_with (first | (refine st_new hS rfl 30 rfl word_zero ?_; clear hS; intro w1 b2 hS) | (refine st_store (c' := bc 32 fun _ => 0) hS rfl 30 _ _ rfl rfl word_lit_eq (by repeat (first | exact Upd.head | apply Upd.tail)) word_size (bc_size _ _) (bc_size _ _) (bc_one _ _) ?_; clear hS; intro w1 hS))
      exact post_cell_one 2 3 30 rfl rfl rfl rfl (hS.get (by repeat (first | exact At.head | apply At.tail))) word_type rfl word_size (bc_size _ _) (arr_no HN.out hS.frame)
  · have hd3 : decide ((s.size : Int) < 3) = true := by simp; omega
    have HN := Lib.hid (show wOk s = false by
      have : tl s = [] := List.length_eq_zero_iff.1 (by unfold tl; rw [List.length_drop, ← size_data]; omega)
      unfold wOk; rw [this]; simp [slim])
    go_enter Try.func11, Try.ntmps11
    go_wp2_with (first | (refine st_new hS rfl 30 rfl word_zero ?_; clear hS; intro w1 b2 hS) | (refine st_store (c' := bc 32 fun _ => 0) hS rfl 30 _ _ rfl rfl word_lit_eq (by repeat (first | exact Upd.head | apply Upd.tail)) word_size (bc_size _ _) (bc_size _ _) (bc_one _ _) ?_; clear hS; intro w1 hS))
    exact post_cell_one 2 3 30 rfl rfl rfl rfl (hS.get (by repeat (first | exact At.head | apply At.tail))) word_type rfl word_size (bc_size _ _) (arr_no HN.out hS.frame)

theorem aOk_rd {s : ByteArray} (h : rdOk s = false) : aOk s = false := by
  cases ha : aOk s with
  | false => rfl
  | true =>
    unfold aOk at ha
    simp only [Bool.and_eq_true, decide_eq_true_eq] at ha
    have h1 := tl_len (px_le ha.1.1)
    rw [is_ok ha.1.1 (by omega) ha.2] at h
    cases h
theorem aOk_eq {s : ByteArray} (h : rdOk s = true) : aOk s = decide ((s.size - 2) / 2 = 20) := by
  unfold rdOk at h
  simp only [Bool.and_eq_true, beq_iff_eq] at h
  have h1 := tl_len (px_le h.1.1)
  unfold aOk
  rw [h.1.1, show allHex (tl s) = true from h.2, Bool.true_and, Bool.and_true, Bool.eq_iff_iff]
  simp only [decide_eq_true_eq]
  omega
set_option maxHeartbeats 1000000 in
set_option maxRecDepth 100000 in
theorem readAddr_any (s : ByteArray) (w : World) (hm : s.size ≤ 1000000) :
    Calls Try.prog 13 #[.string s] w (ArrPost 20 w (aOk s) (aVal s) (.bool true) (.bool false)) := by
  have hS := St.start w
  have hsl := fun (b : Nat) (w1 : World) => slice_all (P := Try.prog) (b := b) addr_type u8_size (by decide) w1
  have hrh := fun w1 => readHex_any s w1 hm
  cases hok : rdOk s with
  | false =>
    have HN := Lib.hid (aOk_rd hok)
    have hrh2 := fun w1 => (hrh w1).mono (fun e w' h => (show e = .returned (.tuple #[.slice none 0 0, .bool false]) ∧ Tch [] w1 w' from ⟨by have h2 := h.2; rw [hok, if_neg (by decide)] at h2; exact h2, h.1⟩))
    clear hrh hok
    go_enter Try.func13, Try.ntmps13
    go_wp2_with (first | (go_at_call 9; refine (hrh2 _).mono ?_; rintro e w2 ⟨rfl, hT⟩; replace hS := hS.call hT; clear hT) | (refine st_new hS rfl 36 rfl addr_zero ?_; clear hS; intro w1 b6 hS) | (refine st_load hS rfl 36 _ rfl rfl (by repeat (first | exact At.head | apply At.tail)) addr_type rfl addr_size (bc_size _ _) ?_) | (refine st_store hS rfl 36 _ _ rfl rfl rfl (by repeat (first | exact Upd.head | apply Upd.tail)) addr_size (bc_size _ _) (bc_size _ _) (bc_one _ _) ?_; clear hS; intro w1 hS))
    exact post_cell_one 2 3 36 rfl rfl rfl rfl (hS.get (by repeat (first | exact At.head | apply At.tail))) addr_type rfl addr_size (bc_size _ _) (arr_no HN.out hS.frame)
  | true =>
    have hrh2 := fun w1 => (hrh w1).mono (fun e w' h => (show ∃ p c, e = .returned (.tuple #[.slice p ((s.size - 2) / 2) c, .bool true]) ∧ RdB w' (.slice p ((s.size - 2) / 2) c) (prs (tl s) ((s.size - 2) / 2)) ∧ Tch [] w1 w' from by
      have h2 := h.2
      rw [hok, if_pos rfl] at h2
      obtain ⟨v, h3, h4⟩ := h2
      obtain ⟨p, c, h5, _⟩ := id h4
      rw [prs_length] at h5
      subst h5
      exact ⟨p, c, h3, h4, h.1⟩))
    have hae := aOk_eq hok
    obtain ⟨n, hn⟩ : ∃ n, n = (s.size - 2) / 2 := ⟨_, rfl⟩
    rw [← hn] at hrh2 hae
    clear hrh hok hn
    by_cases h20 : n = 20
    · subst h20
      have HO := Lib.hid (show aOk s = true by rw [hae]; rfl)
      have hlen : (prs (tl s) 20).length = 20 := prs_length _ _
      clear hae
      go_enter Try.func13, Try.ntmps13
      go_wp2_with (first | (go_at_call 9; refine (hrh2 _).mono ?_; rintro e w2 ⟨p, c, rfl, hv, hT⟩; replace hS := hS.call hT; clear hT) | (have _t := b2; clear _t; refine st_newT hS rfl 36 rfl addr_zero ?_; clear hS; intro w3 b6 hS hT; replace hv := hv.tch hT (by simp); clear hT) | (refine st_new hS rfl 36 rfl addr_zero ?_; clear hS; intro w1 b2 hS) | (refine st_copyAll hS rfl (.tmp 20) (.tmp 21) rfl rfl rfl hv ?_ (by decide) .head ?_; exact prs_length _ _; clear hS hv; intro w4 hS) | (refine st_load hS rfl 36 _ rfl rfl (by repeat (first | exact At.head | apply At.tail)) addr_type rfl addr_size (bc_size _ _) ?_) | (refine st_store hS rfl 36 _ _ rfl rfl rfl (by repeat (first | exact Upd.head | apply Upd.tail)) addr_size (bc_size _ _) (bc_size _ _) (bc_one _ _) ?_; clear hS; intro w1 hS))
      exact post_cell_one 2 3 36 rfl rfl rfl rfl (hS.get (by repeat (first | exact At.head | apply At.tail))) addr_type rfl addr_size (bc_size _ _) (arr_yes HO.out hS.frame rfl)
    · have HN := Lib.hid (show aOk s = false by rw [hae]; simpa using h20)
      have hd : ((n : Int) != 20) = true := by rw [bne_iff_ne]; omega
      clear hae h20
      go_enter Try.func13, Try.ntmps13
      go_wp2_with (first | (go_at_call 9; refine (hrh2 _).mono ?_; rintro e w2 ⟨p, c, rfl, hv, hT⟩; replace hS := hS.call hT; clear hT hv) | (refine st_new hS rfl 36 rfl addr_zero ?_; clear hS; intro w1 b6 hS) | (refine st_load hS rfl 36 _ rfl rfl (by repeat (first | exact At.head | apply At.tail)) addr_type rfl addr_size (bc_size _ _) ?_) | (refine st_store hS rfl 36 _ _ rfl rfl rfl (by repeat (first | exact Upd.head | apply Upd.tail)) addr_size (bc_size _ _) (bc_size _ _) (bc_one _ _) ?_; clear hS; intro w1 hS))
      exact post_cell_one 2 3 36 rfl rfl rfl rfl (hS.get (by repeat (first | exact At.head | apply At.tail))) addr_type rfl addr_size (bc_size _ _) (arr_no HN.out hS.frame)
end Go.Proofs.Ytbmlglnfhapceaa
