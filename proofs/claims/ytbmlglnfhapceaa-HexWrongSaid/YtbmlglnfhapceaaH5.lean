/- hex.Word, hex.Addr. -/
import Derived.Test.YtbmlglnfhapceaaH4
namespace Go.Proofs.Ytbmlglnfhapceaa
open Go.RowKit

theorem word_type : Try.prog.underlying 30 = some (.array 32 5) := by kernel_rfl
theorem word_size : (Try.prog.info? 30).map (·.size) = some 32 := by kernel_rfl
theorem addr_type : Try.prog.underlying 36 = some (.array 20 5) := by kernel_rfl
theorem addr_size : (Try.prog.info? 36).map (·.size) = some 20 := by kernel_rfl
theorem word_lit : (bc 32 fun _ => 0) = #[.int .u8 0, .int .u8 0, .int .u8 0, .int .u8 0, .int .u8 0, .int .u8 0, .int .u8 0, .int .u8 0, .int .u8 0, .int .u8 0, .int .u8 0, .int .u8 0, .int .u8 0, .int .u8 0, .int .u8 0, .int .u8 0, .int .u8 0, .int .u8 0, .int .u8 0, .int .u8 0, .int .u8 0, .int .u8 0, .int .u8 0, .int .u8 0, .int .u8 0, .int .u8 0, .int .u8 0, .int .u8 0, .int .u8 0, .int .u8 0, .int .u8 0, .int .u8 0] := by kernel_rfl
theorem addr_lit : (bc 20 fun _ => 0) = #[.int .u8 0, .int .u8 0, .int .u8 0, .int .u8 0, .int .u8 0, .int .u8 0, .int .u8 0, .int .u8 0, .int .u8 0, .int .u8 0, .int .u8 0, .int .u8 0, .int .u8 0, .int .u8 0, .int .u8 0, .int .u8 0, .int .u8 0, .int .u8 0, .int .u8 0, .int .u8 0] := by kernel_rfl
theorem word_lit_eq : (Value.agg #[.int .u8 0, .int .u8 0, .int .u8 0, .int .u8 0, .int .u8 0, .int .u8 0, .int .u8 0, .int .u8 0, .int .u8 0, .int .u8 0, .int .u8 0, .int .u8 0, .int .u8 0, .int .u8 0, .int .u8 0, .int .u8 0, .int .u8 0, .int .u8 0, .int .u8 0, .int .u8 0, .int .u8 0, .int .u8 0, .int .u8 0, .int .u8 0, .int .u8 0, .int .u8 0, .int .u8 0, .int .u8 0, .int .u8 0, .int .u8 0, .int .u8 0, .int .u8 0]) = .agg (bc 32 fun _ => 0) := by rw [word_lit]
theorem addr_lit_eq : (Value.agg #[.int .u8 0, .int .u8 0, .int .u8 0, .int .u8 0, .int .u8 0, .int .u8 0, .int .u8 0, .int .u8 0, .int .u8 0, .int .u8 0, .int .u8 0, .int .u8 0, .int .u8 0, .int .u8 0, .int .u8 0, .int .u8 0, .int .u8 0, .int .u8 0, .int .u8 0, .int .u8 0]) = .agg (bc 20 fun _ => 0) := by rw [addr_lit]
theorem word_zero : (Try.prog.info? 30).bind (·.zero) = some (.agg (bc 32 fun _ => 0)) := by rw [word_lit]; kernel_rfl
theorem addr_zero : (Try.prog.info? 36).bind (·.zero) = some (.agg (bc 20 fun _ => 0)) := by rw [addr_lit]; kernel_rfl
theorem sizeOf_one {P : Program} {e : TypeId} (he : (P.info? e).map (·.size) = some 1) (w : World) : (sizeOf e).run P w = .ok 1 w := by
  cases hq : P.info? e with
  | none => simp [hq] at he
  | some i =>
    have hs : i.size = 1 := by simpa [hq] using he
    simp [sizeOf, typeInfo, hq, hs]
theorem slice_all {P : Program} {ty n e b : Nat} (hu : P.underlying ty = some (.array n e)) (he : (P.info? e).map (·.size) = some 1) (hn : n ≠ 0) (w : World) :
    (Instr.sliceAt ty (.pointer (some ⟨b, 0, none⟩)) none none none).run P w = .ok (.slice (some ⟨b, 0, none⟩) n n) w := by
  have hadd : (⟨b, 0, none⟩ : Addr).add (0 * 1) = ⟨b, 0, none⟩ := rfl
  simp only [Instr.sliceAt, Sem.run_bind, run_underlying hu w, Result.andThen_ok, Instr.sureAddr, Instr.sliceBounds, Sem.run_pure, sizeOf_one he w, hadd, if_false, hn, Nat.sub_zero]
/-- The digits of a text, behind 0x. -/
def tl (s : ByteArray) : List UInt8 := s.data.toList.drop 2
def wOk (s : ByteArray) : Bool := px s && slim (tl s) && decide ((tl s).length ≤ 64) && allHex (tl s)
def wVal (s : ByteArray) (i : Nat) : Nat := (prs (pad (64 - (tl s).length) (tl s)) 32).getD i 0
def aOk (s : ByteArray) : Bool := px s && decide ((tl s).length = 40) && allHex (tl s)
def aVal (s : ByteArray) (i : Nat) : Nat := (prs (tl s) 20).getD i 0
theorem prs_getD_lt (l : List UInt8) (n i : Nat) : (prs l n).getD i 0 < 256 := by
  by_cases h : i < n
  · have hl : i < (prs l n).length := by rw [prs_length]; exact h
    have e : (prs l n).getD i 0 = (prs l n)[i] := by simp [hl]
    rw [e]; exact prs_lt _ _ _ (List.getElem_mem hl)
  · have e : (prs l n).getD i 0 = 0 := by rw [List.getD_eq_getElem?_getD, List.getElem?_eq_none (by rw [prs_length]; omega)]; rfl
    rw [e]; omega
def ArrPost (n : Nat) (w : World) (ok : Bool) (f : Nat → Nat) (yes no : Value) (e : Ending) (w' : World) : Prop :=
  Tch [] w w' ∧ e = .returned (.tuple #[.agg (bc n (if ok then f else fun _ => 0)), if ok then yes else no])
theorem arr_no {n : Nat} {w w' : World} {ok : Bool} {f : Nat → Nat} {yes no : Value} (h : ok = false) (hT : Tch [] w w') : ArrPost n w ok f yes no (.returned (.tuple #[.agg (bc n fun _ => 0), no])) w' := ⟨hT, by rw [h]; rfl⟩
theorem arr_yes {n : Nat} {w w' : World} {ok : Bool} {f g : Nat → Nat} {yes no : Value} (h : ok = true) (hT : Tch [] w w') (hg : bc n g = bc n f) : ArrPost n w ok f yes no (.returned (.tuple #[.agg (bc n g), yes])) w' := ⟨hT, by rw [h, hg]; rfl⟩
set_option maxHeartbeats 1000000 in
set_option maxRecDepth 100000 in
theorem hexWord_any (s : ByteArray) (w : World) (hm : s.size ≤ 1000000) :
    Calls Try.prog 10 #[.string s] w (ArrPost 32 w (wOk s) (wVal s) (.int .i64 0) (.int .i64 2)) := by
  have hS := St.start w
  have hcut := fun w1 => cut_any s w1 (by unfold maxLen; omega)
  have hsl := fun (b : Nat) (w1 : World) => slice_all (P := Try.prog) (b := b) word_type u8_size (by decide) w1
  cases hp : px s with
  | false =>
    rw [hp] at hcut
    have HN := Lib.hid (show wOk s = false by unfold wOk; rw [hp]; rfl)
    clear hp
    go_enter Try.func10, Try.ntmps10
    go_wp2_with (first | (go_at_call 20; refine (hcut _).mono ?_; rintro e w' ⟨rfl, rfl⟩) | (have _t := b2; clear _t; refine st_new hS rfl 30 rfl word_zero ?_; clear hS; intro w1 b4 hS) | (refine st_new hS rfl 30 rfl word_zero ?_; clear hS; intro w1 b2 hS) | (refine st_store (c' := bc 32 fun _ => 0) hS rfl 30 _ _ rfl rfl word_lit_eq (by repeat (first | exact Upd.head | apply Upd.tail)) word_size (bc_size _ _) (bc_size _ _) (bc_one _ _) ?_; clear hS; intro w1 hS))
    exact post_cell_one 2 3 30 rfl rfl rfl rfl (hS.get (by repeat (first | exact At.head | apply At.tail))) word_type rfl word_size (bc_size _ _) (arr_no HN.out hS.frame)
  | true =>
    rw [hp] at hcut
    have h2 := px_le hp
    obtain ⟨t, ht⟩ : ∃ t, t = s.extract 2 s.size := ⟨_, rfl⟩
    have htl : t.data.toList = tl s := by rw [ht, tail_data]; rfl
    have hts : t.size = (tl s).length := by rw [size_data, htl]
    have htm : t.size ≤ 1000000 := by rw [hts, tl, List.length_drop, ← size_data]; omega
    replace hcut : ∀ w1, Calls Try.prog 20 #[.string s, .string ⟨#[48, 120]⟩] w1 fun e w' => e = .returned (.tuple #[.string t, .bool true]) ∧ w1 = w' := by rw [ht]; exact hcut
    clear ht
    have hsh := fun w1 => shortest_any t w1 (by unfold maxLen; omega)
    rw [htl] at hsh
    cases hsl2 : slim (tl s) with
    | false =>
      rw [hsl2] at hsh
      have HN := Lib.hid (show wOk s = false by unfold wOk; rw [hp, hsl2]; rfl)
      clear hp hsl2 htl hts
      go_enter Try.func10, Try.ntmps10
      go_wp2_with (first | (go_at_call 20; refine (hcut _).mono ?_; rintro e w' ⟨rfl, rfl⟩) | (go_at_call 23; refine (hsh _).mono ?_; rintro e w' ⟨rfl, rfl⟩) | (have _t := b2; clear _t; refine st_new hS rfl 30 rfl word_zero ?_; clear hS; intro w1 b4 hS) | (refine st_new hS rfl 30 rfl word_zero ?_; clear hS; intro w1 b2 hS) | (refine st_store (c' := bc 32 fun _ => 0) hS rfl 30 _ _ rfl rfl word_lit_eq (by repeat (first | exact Upd.head | apply Upd.tail)) word_size (bc_size _ _) (bc_size _ _) (bc_one _ _) ?_; clear hS; intro w1 hS))
      exact post_cell_one 2 3 30 rfl rfl rfl rfl (hS.get (by repeat (first | exact At.head | apply At.tail))) word_type rfl word_size (bc_size _ _) (arr_no HN.out hS.frame)
    | true =>
      rw [hsl2] at hsh
      by_cases hlen : t.size ≤ 64
      · have hd : decide ((64 : Int) < t.size) = false := by simp; omega
        have hdl : decide ((tl s).length ≤ 64) = true := by simp; omega
        have hfill := fun (b : Nat) (w1 : World) (hB : Blk w1 b 30 (bc 32 fun _ => 0)) => fill_any b 32 32 30 t w1 (by unfold maxLen; omega) (by omega) (by omega) hB
        cases hall : allHex (tl s) with
        | false =>
          have HN := Lib.hid (show wOk s = false by unfold wOk; rw [hp, hsl2, hdl, hall]; rfl)
          have hfill2 := fun (b : Nat) (w1 : World) (hB : Blk w1 b 30 (bc 32 fun _ => 0)) => (hfill b w1 hB).mono (fun e w' h => (show e = .returned (.bool false) ∧ Tch [b] w1 w' from ⟨by rw [← hall, ← htl]; exact h.1, h.2.1⟩))
          have HF := Lib.hid hfill2
          clear hfill hfill2 hall htl hts hp hsl2 hdl
          go_enter Try.func10, Try.ntmps10
          go_wp2_with (first | (go_at_call 20; refine (hcut _).mono ?_; rintro e w' ⟨rfl, rfl⟩) | (go_at_call 23; refine (hsh _).mono ?_; rintro e w' ⟨rfl, rfl⟩) | (have _t := b2; clear _t; refine st_new hS rfl 30 rfl word_zero ?_; clear hS; intro w1 b4 hS) | (refine st_new hS rfl 30 rfl word_zero ?_; clear hS; intro w1 b2 hS) | (go_at_call 21; refine (HF.out _ _ (hS.get .head)).mono ?_; rintro e w' ⟨rfl, hT⟩; replace hS := hS.lose hT; clear hT) | (refine st_store (c' := bc 32 fun _ => 0) hS rfl 30 _ _ rfl rfl word_lit_eq (by repeat (first | exact Upd.head | apply Upd.tail)) word_size (bc_size _ _) (bc_size _ _) (bc_one _ _) ?_; clear hS; intro w1 hS))
          exact post_cell_one 2 3 30 rfl rfl rfl rfl (hS.get (by repeat (first | exact At.head | apply At.tail))) word_type rfl word_size (bc_size _ _) (arr_no HN.out hS.frame)
        | true =>
          have HO := Lib.hid (show wOk s = true by unfold wOk; rw [hp, hsl2, hdl, hall]; rfl)
          have hfill2 := fun (b : Nat) (w1 : World) (hB : Blk w1 b 30 (bc 32 fun _ => 0)) => (hfill b w1 hB).mono (fun e w' h => (show e = .returned (.bool true) ∧ Tch [b] w1 w' ∧ Blk w' b 30 (bc 32 (wVal s)) from ⟨by rw [← hall, ← htl]; exact h.1, h.2.1, by
          obtain ⟨f, hf, hf2⟩ := h.2.2
          rw [hf2 (htl ▸ hall), htl] at hf
          rw [show bc 32 (wVal s) = bc 32 (fc (pad (2 * 32 - (tl s).length) (tl s)) (2 * 32)) from (fc_end _ _).symm]
          exact hf⟩))
          have HF := Lib.hid hfill2
          clear hfill hfill2 hall htl hts hp hsl2 hdl
          go_enter Try.func10, Try.ntmps10
          go_wp2_with (first | (go_at_call 20; refine (hcut _).mono ?_; rintro e w' ⟨rfl, rfl⟩) | (go_at_call 23; refine (hsh _).mono ?_; rintro e w' ⟨rfl, rfl⟩) | (have _t := b2; clear _t; refine st_new hS rfl 30 rfl word_zero ?_; clear hS; intro w1 b4 hS) | (refine st_new hS rfl 30 rfl word_zero ?_; clear hS; intro w1 b2 hS) | (go_at_call 21; refine (HF.out _ _ (hS.get .head)).mono ?_; rintro e w' ⟨rfl, hT, hB⟩; replace hS := hS.on1 .head hT hB; clear hT hB) | (refine st_load hS rfl 30 _ rfl rfl (by repeat (first | exact At.head | apply At.tail)) word_type rfl word_size (bc_size _ _) ?_) | (refine st_store hS rfl 30 _ _ rfl rfl rfl (by repeat (first | exact Upd.head | apply Upd.tail)) word_size (bc_size _ _) (bc_size _ _) (bc_one _ _) ?_; clear hS; intro w1 hS))
          exact post_cell_one 2 3 30 rfl rfl rfl rfl (hS.get (by repeat (first | exact At.head | apply At.tail))) word_type rfl word_size (bc_size _ _) (arr_yes HO.out hS.frame rfl)
      · have hd : decide ((64 : Int) < t.size) = true := by simp; omega
        have HN := Lib.hid (show wOk s = false by unfold wOk; rw [hp, hsl2, show decide ((tl s).length ≤ 64) = false by simp; omega]; rfl)
        clear hp hsl2 htl hts
        go_enter Try.func10, Try.ntmps10
        go_wp2_with (first | (go_at_call 20; refine (hcut _).mono ?_; rintro e w' ⟨rfl, rfl⟩) | (go_at_call 23; refine (hsh _).mono ?_; rintro e w' ⟨rfl, rfl⟩) | (have _t := b2; clear _t; refine st_new hS rfl 30 rfl word_zero ?_; clear hS; intro w1 b4 hS) | (refine st_new hS rfl 30 rfl word_zero ?_; clear hS; intro w1 b2 hS) | (refine st_store (c' := bc 32 fun _ => 0) hS rfl 30 _ _ rfl rfl word_lit_eq (by repeat (first | exact Upd.head | apply Upd.tail)) word_size (bc_size _ _) (bc_size _ _) (bc_one _ _) ?_; clear hS; intro w1 hS))
        exact post_cell_one 2 3 30 rfl rfl rfl rfl (hS.get (by repeat (first | exact At.head | apply At.tail))) word_type rfl word_size (bc_size _ _) (arr_no HN.out hS.frame)
set_option maxHeartbeats 1000000 in
set_option maxRecDepth 100000 in
theorem hexAddr_any (s : ByteArray) (w : World) (hm : s.size ≤ 1000000) :
    Calls Try.prog 12 #[.string s] w (ArrPost 20 w (aOk s) (aVal s) (.int .i64 0) (.int .i64 2)) := by
  have hS := St.start w
  have hcut := fun w1 => cut_any s w1 (by unfold maxLen; omega)
  have hsl := fun (b : Nat) (w1 : World) => slice_all (P := Try.prog) (b := b) addr_type u8_size (by decide) w1
  cases hp : px s with
  | false =>
    rw [hp] at hcut
    have HN := Lib.hid (show aOk s = false by unfold aOk; rw [hp]; rfl)
    clear hp
    go_enter Try.func12, Try.ntmps12
    go_wp2_with (first | (go_at_call 20; refine (hcut _).mono ?_; rintro e w' ⟨rfl, rfl⟩) | (have _t := b2; clear _t; refine st_new hS rfl 36 rfl addr_zero ?_; clear hS; intro w1 b4 hS) | (refine st_new hS rfl 36 rfl addr_zero ?_; clear hS; intro w1 b2 hS) | (refine st_store (c' := bc 20 fun _ => 0) hS rfl 36 _ _ rfl rfl addr_lit_eq (by repeat (first | exact Upd.head | apply Upd.tail)) addr_size (bc_size _ _) (bc_size _ _) (bc_one _ _) ?_; clear hS; intro w1 hS))
    exact post_cell_one 2 3 36 rfl rfl rfl rfl (hS.get (by repeat (first | exact At.head | apply At.tail))) addr_type rfl addr_size (bc_size _ _) (arr_no HN.out hS.frame)
  | true =>
    rw [hp] at hcut
    have h2 := px_le hp
    obtain ⟨t, ht⟩ : ∃ t, t = s.extract 2 s.size := ⟨_, rfl⟩
    have htl : t.data.toList = tl s := by rw [ht, tail_data]; rfl
    have hts : t.size = (tl s).length := by rw [size_data, htl]
    have htm : t.size ≤ 1000000 := by rw [hts, tl, List.length_drop, ← size_data]; omega
    replace hcut : ∀ w1, Calls Try.prog 20 #[.string s, .string ⟨#[48, 120]⟩] w1 fun e w' => e = .returned (.tuple #[.string t, .bool true]) ∧ w1 = w' := by rw [ht]; exact hcut
    clear ht
    · by_cases hlen : t.size = 40
      · have hd : ((t.size : Int) != 40) = false := by rw [bne_eq_false_iff_eq]; omega
        have hdl : decide ((tl s).length = 40) = true := by simp; omega
        have hfill := fun (b : Nat) (w1 : World) (hB : Blk w1 b 36 (bc 20 fun _ => 0)) => fill_any b 20 20 36 t w1 (by unfold maxLen; omega) (by omega) (by omega) hB
        cases hall : allHex (tl s) with
        | false =>
          have HN := Lib.hid (show aOk s = false by unfold aOk; rw [hp, hdl, hall]; rfl)
          have hfill2 := fun (b : Nat) (w1 : World) (hB : Blk w1 b 36 (bc 20 fun _ => 0)) => (hfill b w1 hB).mono (fun e w' h => (show e = .returned (.bool false) ∧ Tch [b] w1 w' from ⟨by rw [← hall, ← htl]; exact h.1, h.2.1⟩))
          have HF := Lib.hid hfill2
          clear hfill hfill2 hall htl hts hp hdl
          go_enter Try.func12, Try.ntmps12
          go_wp2_with (first | (go_at_call 20; refine (hcut _).mono ?_; rintro e w' ⟨rfl, rfl⟩) | (have _t := b2; clear _t; refine st_new hS rfl 36 rfl addr_zero ?_; clear hS; intro w1 b4 hS) | (refine st_new hS rfl 36 rfl addr_zero ?_; clear hS; intro w1 b2 hS) | (go_at_call 21; refine (HF.out _ _ (hS.get .head)).mono ?_; rintro e w' ⟨rfl, hT⟩; replace hS := hS.lose hT; clear hT) | (refine st_store (c' := bc 20 fun _ => 0) hS rfl 36 _ _ rfl rfl addr_lit_eq (by repeat (first | exact Upd.head | apply Upd.tail)) addr_size (bc_size _ _) (bc_size _ _) (bc_one _ _) ?_; clear hS; intro w1 hS))
          exact post_cell_one 2 3 36 rfl rfl rfl rfl (hS.get (by repeat (first | exact At.head | apply At.tail))) addr_type rfl addr_size (bc_size _ _) (arr_no HN.out hS.frame)
        | true =>
          have HO := Lib.hid (show aOk s = true by unfold aOk; rw [hp, hdl, hall]; rfl)
          have hfill2 := fun (b : Nat) (w1 : World) (hB : Blk w1 b 36 (bc 20 fun _ => 0)) => (hfill b w1 hB).mono (fun e w' h => (show e = .returned (.bool true) ∧ Tch [b] w1 w' ∧ Blk w' b 36 (bc 20 (aVal s)) from ⟨by rw [← hall, ← htl]; exact h.1, h.2.1, by
          obtain ⟨f, hf, hf2⟩ := h.2.2
          rw [hf2 (htl ▸ hall), htl, show 2 * 20 - (tl s).length = 0 by omega, pad_zero] at hf
          rw [show bc 20 (aVal s) = bc 20 (fc (tl s) (2 * 20)) from (fc_end _ _).symm]
          exact hf⟩))
          have HF := Lib.hid hfill2
          clear hfill hfill2 hall htl hts hp hdl
          go_enter Try.func12, Try.ntmps12
          go_wp2_with (first | (go_at_call 20; refine (hcut _).mono ?_; rintro e w' ⟨rfl, rfl⟩) | (have _t := b2; clear _t; refine st_new hS rfl 36 rfl addr_zero ?_; clear hS; intro w1 b4 hS) | (refine st_new hS rfl 36 rfl addr_zero ?_; clear hS; intro w1 b2 hS) | (go_at_call 21; refine (HF.out _ _ (hS.get .head)).mono ?_; rintro e w' ⟨rfl, hT, hB⟩; replace hS := hS.on1 .head hT hB; clear hT hB) | (refine st_load hS rfl 36 _ rfl rfl (by repeat (first | exact At.head | apply At.tail)) addr_type rfl addr_size (bc_size _ _) ?_) | (refine st_store hS rfl 36 _ _ rfl rfl rfl (by repeat (first | exact Upd.head | apply Upd.tail)) addr_size (bc_size _ _) (bc_size _ _) (bc_one _ _) ?_; clear hS; intro w1 hS))
          exact post_cell_one 2 3 36 rfl rfl rfl rfl (hS.get (by repeat (first | exact At.head | apply At.tail))) addr_type rfl addr_size (bc_size _ _) (arr_yes HO.out hS.frame rfl)
      · have hd : ((t.size : Int) != 40) = true := by rw [bne_iff_ne]; omega
        have HN := Lib.hid (show aOk s = false by unfold aOk; rw [hp, show decide ((tl s).length = 40) = false by simp; omega]; rfl)
        clear hp htl hts
        go_enter Try.func12, Try.ntmps12
        go_wp2_with (first | (go_at_call 20; refine (hcut _).mono ?_; rintro e w' ⟨rfl, rfl⟩) | (have _t := b2; clear _t; refine st_new hS rfl 36 rfl addr_zero ?_; clear hS; intro w1 b4 hS) | (refine st_new hS rfl 36 rfl addr_zero ?_; clear hS; intro w1 b2 hS) | (refine st_store (c' := bc 20 fun _ => 0) hS rfl 36 _ _ rfl rfl addr_lit_eq (by repeat (first | exact Upd.head | apply Upd.tail)) addr_size (bc_size _ _) (bc_size _ _) (bc_one _ _) ?_; clear hS; intro w1 hS))
        exact post_cell_one 2 3 36 rfl rfl rfl rfl (hS.get (by repeat (first | exact At.head | apply At.tail))) addr_type rfl addr_size (bc_size _ _) (arr_no HN.out hS.frame)
end Go.Proofs.Ytbmlglnfhapceaa
