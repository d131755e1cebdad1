/- The grower, at lists and at any item. -/
import Derived.Test.YtopfmaoeebgjmaaGreatDoorM01
import Derived.Test.YtopfmaoeebgjmaaGreatDoorM02
import Derived.Test.YtopfmaoeebgjmaaGreatDoorM14
set_option linter.unusedVariables false
set_option linter.unusedSimpArgs false
namespace Go.Proofs.YtopfmaoeebgjmaaGreatDoor
section
open Go.RowKit
theorem piece_info : (Tryz.prog.info? 192).map (fun i => (i.zero, i.size, i.bytes)) = some (some .nilIface, 1, 16) := by kernel_rfl
theorem list_ty : Tryz.prog.underlying 240 = some (.slice 192) := by kernel_rfl
theorem make_pieces (n : Nat) : madeCells (Value.nilIface).cells (n * 1) = Array.replicate n .nilIface := by
  simp only [madeCells, Value.cells, Nat.mul_one]
  apply Array.ext (by simp)
  intro j h1 h2
  simp [Nat.mod_one]
theorem st_makeP {ops : Array Oper} {rest : List Oper} {o : Oper} {a : Act} {w : World} {Q : Exit → Act → World → Prop} (n : Nat) (hgd : o.guard = none) (x y : Operand) (ho : o.op = .makeSlice 240 x y) (hx : a.eval x = .int .i64 (n : Int)) (hy : a.eval y = .int .i64 (n : Int)) (hn : n ≤ 16777216)
    (h : wpList Tryz.prog ops Q rest (a.put o.dst (.slice (some ⟨w.heap.size, 0, none⟩) n n)) (w.alloc (.cells (Array.replicate n .nilIface) 192))) : wpList Tryz.prog ops Q (o :: rest) a w :=
  wpList_plain hgd fun K hK => by
    obtain ⟨i, hi, hz, hs, hb⟩ := info_parts piece_info
    have hr := run_makeSlice (P := Tryz.prog) w 240 192 i .nilIface list_ty hi hz .i64 .i64 n n (by omega) (by omega) (by rw [hs]; simp; omega) (by rw [hb]; omega) (by omega)
    rw [hs, Int.toNat_natCast, make_pieces] at hr
    unfold Oper.wp execOp
    simp only [ho, hx, hy, Sem.run_bind, hr, Result.andThen_ok, Sem.run_pure]
    exact hK _ _ h
def GrowOK (j : Nat) : Prop := ∀ (X : List Nat) (g r k b o : Nat) (x0 vb vl : Value) (it : It) (t : TypeId) (d : Int) (w : World), g ∈ X → (∀ x ∈ X, x < w.heap.size) → r ≤ 16777216 → b ∉ X → b < w.heap.size → Blk w g t (gro r) →
  w.cell? ⟨b, o, none⟩ = some x0 → w.cell? ⟨b, o + 1, none⟩ = some vb → w.cell? ⟨b, o + 2, none⟩ = some vl → ItC X w k x0 vb vl it → d + j = 32 → 0 ≤ d →
  Calls Tryz.prog 103 #[.pointer (some ⟨g, 0, none⟩), .pointer (some ⟨b, o, none⟩), .int .i64 d] w (GrowPost X g t r j k it w)
def GLI (X : List Nat) (g r j k Lb : Nat) (t : TypeId) (l : List It) (w : World) (m : Nat) (W : World) : Prop :=
  Tch [g] w W ∧ w.heap.size ≤ Lb ∧ (∃ c, Blk W Lb 192 c ∧ c.size = l.length ∧ ∀ q (h : q < l.length), q < m → ∃ u, c[q]? = some u ∧ PcV (Lb :: X) W k u l[q]) ∧ (encs (l.take m)).length ≤ r ∧ deps (l.take m) ≤ j ∧ Blk W g t (gro ((r - (encs (l.take m)).length : Nat) : Int))
theorem take_more (l : List It) (m : Nat) (h : m < l.length) : encs (l.take (m + 1)) = encs (l.take m) ++ enc l[m] ∧ deps (l.take (m + 1)) = max (deps (l.take m)) (dep l[m]) := by
  rw [List.take_succ_eq_append_getElem h, encs_append, deps_append, encs_one]
  exact ⟨rfl, by simp [deps]⟩
theorem encs_split (l : List It) (m : Nat) (h : m < l.length) : (encs (l.take m)).length + (enc l[m]).length ≤ (encs l).length := by
  have e := congrArg List.length (congrArg encs (List.take_append_drop (m + 1) l))
  rw [encs_append, List.length_append, (take_more l m h).1, List.length_append] at e
  omega
set_option maxHeartbeats 2000000 in
set_option maxRecDepth 100000 in
theorem growList_zero (X : List Nat) (g r k c : Nat) (p : Option Addr) (l : List It) (t : TypeId) (w : World) :
    Calls Tryz.prog 126 #[.pointer (some ⟨g, 0, none⟩), .slice p l.length c, .int .i64 32] w (GrowPost X g t r 0 k (.lst l) w) := by
  go_enter Tryz.func126, Tryz.ntmps126
  go_wp2
  go_ret2
  exact growpost_no (Tch.refl _ _) (by rw [dep_lst]; omega)
theorem PcV.iface {X : List Nat} {w : World} : ∀ {k : Nat} {v : Value} {t : It}, PcV X w k v t → ∃ T u, v = .iface T u
  | 0, _, _, h => h.elim
  | _ + 1, _, .str l, h => by
    unfold PcV at h
    split at h
    · exact ⟨_, _, h⟩
    · obtain ⟨s, h, _⟩ := h; exact ⟨_, _, h⟩
  | _ + 1, _, .lst l, h => by
    unfold PcV at h
    obtain ⟨p, c, h, _⟩ := h; exact ⟨_, _, h⟩
theorem gli_step {X : List Nat} {g r j k Lb m : Nat} {t : TypeId} {l : List It} {w wr w2 : World} {T : TypeId} {u : Value} (hm : m < l.length) (hI : GLI X g r j k Lb t l w m wr) (hLX : Lb ≠ g) (hg : g ∈ X) (hT2 : Tch [g] wr w2) (hv : PcV (Lb :: X) w2 k (.iface T u) l[m]) (hd : dep l[m] ≤ j) (hle : (enc l[m]).length ≤ r - (encs (l.take m)).length)
    (hB2 : Blk w2 g t (gro ((r - (encs (l.take m)).length - (enc l[m]).length : Nat) : Int))) : GLI X g r j k Lb t l w (m + 1) (w2.setCell ⟨Lb, m, none⟩ (.iface T u)) := by
  obtain ⟨hT, hLb, ⟨cs, hBL, hcs, hps⟩, hle0, hdp, hBg⟩ := hI
  have hO : Only Lb w2 (w2.setCell ⟨Lb, m, none⟩ (.iface T u)) := Only.setCell _ ⟨Lb, m, none⟩ _
  have hTO : Tch (Lb :: X) w2 (w2.setCell ⟨Lb, m, none⟩ (.iface T u)) := (Tch.refl _ _).only hO (.inr (by simp))
  obtain ⟨he, hdd⟩ := take_more l m hm
  have hel : (encs (l.take (m + 1))).length = (encs (l.take m)).length + (enc l[m]).length := by rw [he, List.length_append]
  refine ⟨(hT.trans hT2).only hO (.inl hLb), hLb, ⟨cs.setIfInBounds m (.iface T u), (hT2.blk hBL (by simpa using hLX)).set m _, by simp [hcs], fun q hq hqm => ?_⟩, by rw [hel]; omega, by rw [hdd]; omega, ?_⟩
  · rw [Array.getElem?_setIfInBounds]
    by_cases hqe : m = q
    · subst hqe
      exact ⟨_, by rw [if_pos rfl, if_pos (by omega)], hv.tch hTO⟩
    · rw [if_neg hqe]
      obtain ⟨u', h1, h2⟩ := hps q hq (by omega)
      exact ⟨u', h1, (h2.tch (hT2.mono (fun x hx => .inl (by simp at hx; rw [hx]; exact List.mem_cons_of_mem _ hg)))).tch hTO⟩
  · rw [hel, Nat.sub_add_eq]
    exact hO.blk (Ne.symm hLX) hB2
theorem gli_end {X : List Nat} {g r j k Lb n : Nat} {t : TypeId} {l : List It} {w wr w3 : World} {d : Bool} {x : Int} (hn : n = l.length) (hI : GLI X g r j k Lb t l w l.length wr) (hX : ∀ x ∈ X, x < w.heap.size) (hg : g ∈ X) (hLw : Lb < wr.heap.size) (hT3 : Tch [g] wr w3) (hB3 : Blk w3 g t (gro x)) (hx : x = ((r - (encs l).length : Nat) : Int) - hsz (encs l).length) (hdd : d = decide (0 ≤ x)) :
    GrowPost X g t r (j + 1) (k + 1) (.lst l) w (.returned (.tuple #[.iface 240 (.slice (some ⟨Lb, 0, none⟩) n n), .bool d])) w3 := by
  subst hn
  obtain ⟨hT, hLb, ⟨cs, hBL, hcs, hps⟩, hle0, hdp, hBg⟩ := hI
  rw [List.take_length] at *
  have he : (enc (.lst l)).length = hsz (encs l).length + (encs l).length := by rw [enc_lst, List.length_append, hd_length]
  have hLg : Lb ∉ [g] := by intro h; simp at h; have := hX g hg; omega
  have hT3' : Tch (Lb :: X) wr w3 := hT3.mono (fun x hx => .inl (by simp at hx; rw [hx]; exact List.mem_cons_of_mem _ hg))
  have hpc : PcV X w3 (k + 1) (.iface 240 (.slice (some ⟨Lb, 0, none⟩) l.length l.length)) (.lst l) := by
    unfold PcV
    refine ⟨_, _, rfl, Nat.le_refl _, fun _ => ⟨Lb, 0, rfl, Nat.lt_of_lt_of_le hLw hT3.size, fun h => by have := hX _ h; omega, fun i hi => ?_⟩⟩
    obtain ⟨u, h1, h2⟩ := hps i hi hi
    refine ⟨u, ?_, (h2.tch hT3').mono (fun y hy => .inl (List.mem_cons_of_mem _ hy))⟩
    rw [Nat.zero_add]
    exact (hT3.blk hBL hLg).cell h1
  subst hdd
  by_cases h : hsz (encs l).length ≤ r - (encs l).length
  · rw [decide_eq_true (show 0 ≤ x by omega)]
    exact growpost_yes (hT.trans hT3) ⟨by rw [dep_lst]; omega, by omega⟩ hpc hB3 (by rw [he]; omega)
  · rw [decide_eq_false (show ¬ 0 ≤ x by omega)]
    exact growpost_no (hT.trans hT3) (by omega)
set_option maxHeartbeats 2000000 in
set_option maxRecDepth 100000 in
theorem growList_any (j : Nat) (ih : GrowOK j) (X : List Nat) (g r k b o c : Nat) (p : Option Addr) (l : List It) (t : TypeId) (d : Int) (w : World) (hg : g ∈ X) (hX : ∀ x ∈ X, x < w.heap.size) (hr : r ≤ 16777216) (hG : Blk w g t (gro r)) (hd : d + (j + 1 : Nat) = 32) (hd0 : 0 ≤ d) (hlen : l.length < 4611686018427387904)
    (hp : 0 < l.length → p = some ⟨b, o, none⟩ ∧ b < w.heap.size ∧ b ∉ X)
    (hc : ∀ i (h : i < l.length), ∃ y0 yb yl, w.cell? ⟨b, o + i * 3, none⟩ = some y0 ∧ w.cell? ⟨b, o + i * 3 + 1, none⟩ = some yb ∧ w.cell? ⟨b, o + i * 3 + 2, none⟩ = some yl ∧ ItC X w k y0 yb yl l[i]) :
    Calls Tryz.prog 126 #[.pointer (some ⟨g, 0, none⟩), .slice p l.length c, .int .i64 d] w (GrowPost X g t r (j + 1) (k + 1) (.lst l) w) := by
  have hgc := hG.cell (j := 0) (v := .int .i64 r) rfl
  have hd32 : ¬ d = 32 := by omega
  by_cases hroom : l.length ≤ r
  · have hroom' : ¬ (r : Int) < (l.length : Int) := by omega
    have h0 : GLI X g r j k w.heap.size t l w 0 (w.alloc (.cells (Array.replicate l.length .nilIface) 192)) :=
      ⟨(Tch.refl _ _).alloc _, Nat.le_refl _, ⟨_, Blk.new w _ _, by simp, fun q _ hq => by omega⟩, by simp [encs], by simp [deps], by simpa [encs] using hG.alloc _⟩
    have hgw := hG.lt
    have H0 := hQz h0
    have hgc2 := ((hG.alloc (.cells (Array.replicate l.length .nilIface) 192))).cell (j := 0) (v := .int .i64 r) rfl
    have HC := hQz hc
    have hmk := mkL
    clear h0 hG hc
    go_enter Tryz.func126, Tryz.ntmps126
    go_wp2_with (refine st_makeP l.length rfl _ _ rfl rfl rfl (by omega) ?_)
    go_loopw [33] (fun i wr => ∃ m : Nat, m ≤ l.length ∧ i = .int .i64 (m : Int) ∧ GLI X g r j k w.heap.size t l w m wr) (fun i _ => l.length - (intOf i).toNat)
    case atStart => exact ⟨0, Nat.zero_le _, rfl, H0.out⟩
    case round =>
      obtain ⟨m, hm, rfl, hI⟩ := hrel
      have hI' := hI
      obtain ⟨hT, hLb, ⟨cs, hBL, hcs, hps⟩, hle, hdp, hBg⟩ := hI'
      have hgL : w.heap.size ≠ g := by omega
      by_cases hlt : m < l.length
      · obtain ⟨rfl, hb, hbX⟩ := hp (by omega)
        have hbg : b ∉ [g] := by intro h; simp at h; subst h; exact hbX hg
        obtain ⟨y0, yb, yl, c0, c1, c2, hit⟩ := HC.out m hlt
        have hmono : ∀ x ∈ [g], x ∈ w.heap.size :: X ∨ w.heap.size ≤ x := fun x hx => .inl (by simp at hx; rw [hx]; exact List.mem_cons_of_mem _ hg)
        have hwr : w.heap.size < wr.heap.size := hBL.lt
        have hit' := (hit.mono (Y := w.heap.size :: X) (fun y hy => by rcases List.mem_cons.1 hy with rfl | hy; exact .inr (Nat.le_refl _); exact .inl hy)).tch (hT.mono hmono)
        have hcall := ih (w.heap.size :: X) g (r - (encs (l.take m)).length) k b (o + m * 3) y0 yb yl l[m] t (d + 1) wr (List.mem_cons_of_mem _ hg) (fun x hx => by rcases List.mem_cons.1 hx with rfl | hx; exact hwr; exact Nat.lt_trans (hX x hx) hwr) (by omega)
          (by intro h; rcases List.mem_cons.1 h with h | h; omega; exact hbX h) (by omega) hBg ((hT.cell (p := ⟨b, o + m * 3, none⟩) hb hbg).trans c0) ((hT.cell (p := ⟨b, o + m * 3 + 1, none⟩) hb hbg).trans c1) ((hT.cell (p := ⟨b, o + m * 3 + 2, none⟩) hb hbg).trans c2) hit' (by omega) (by omega)
        by_cases hok : dep l[m] ≤ j ∧ (enc l[m]).length ≤ r - (encs (l.take m)).length
        · have hcall2 := hcall.mono (R' := fun e w' => ∃ v, e = .returned (.tuple #[v, .bool true]) ∧ Tch [g] wr w' ∧ PcV (w.heap.size :: X) w' k v l[m] ∧ Blk w' g t (gro ((r - (encs (l.take m)).length - (enc l[m]).length : Nat) : Int))) (fun e w' h => by
            obtain ⟨h1, h2⟩ := h
            rw [if_pos hok] at h2
            obtain ⟨v, h3, h4, h5⟩ := h2
            exact ⟨v, h3, h1, h4, h5⟩)
          have HK := hQz hcall2
          have HOK := hQz hok
          have HI := hQz hI
          have hcm : cs[m]? = some (cs[m]'(by omega)) := Array.getElem?_eq_getElem (by omega)
          have HM := hQz hcm
          clear hcall hcall2 hok hcm hit hit' c0 c1 c2 hps hle hdp hI hT hmono
          go_wp2_with (go_at_call 103; refine HK.out.mono ?_; rintro e w2 ⟨v, rfl, hT2, hv, hB2⟩; obtain ⟨T, u, rfl⟩ := hv.iface; have hBL2 := hT2.blk hBL (by simpa using hgL); have hcl := hBL2.cell (j := m) HM.out; have hfl := hBL2.free m)
          go_roundw
          case rel => exact ⟨m + 1, by omega, by go_num, gli_step hlt HI.out hgL hg hT2 hv HOK.out.1 HOK.out.2 hB2⟩
          case measure => simp [intOf]; omega
        · have hcall2 := hcall.mono (R' := fun e w' => ∃ v, e = .returned (.tuple #[v, .bool false]) ∧ Tch [g] wr w') (fun e w' h => by
            obtain ⟨h1, h2⟩ := h
            rw [if_neg hok] at h2
            obtain ⟨v, h3⟩ := h2
            exact ⟨v, h3, h1⟩)
          have hno : ¬ (dep (.lst l) ≤ j + 1 ∧ (enc (.lst l)).length ≤ r) := by
            have h1 := encs_split l m hlt
            have h2 := deps_mem (List.getElem_mem hlt)
            rw [dep_lst, enc_lst, List.length_append]
            omega
          have HK := hQz hcall2
          have HN := hQz (And.intro hno hT)
          clear hcall hcall2 hok hit hit' c0 c1 c2 hps hle hdp hI hno hT hmono
          go_wp2_with (go_at_call 103; refine HK.out.mono ?_; rintro e w2 ⟨v, rfl, hT2⟩)
          go_ret2
          exact growpost_no (HN.out.2.trans hT2) HN.out.1
      · obtain rfl : m = l.length := by omega
        rw [List.take_length] at hle hBg
        have HI := hQz hI
        obtain ⟨R, hR⟩ : ∃ R, R = r - (encs l).length := ⟨_, rfl⟩
        rw [← hR] at hBg
        have hgr : wr.cell? ⟨g, 0, none⟩ = some (.int .i64 (R : Int)) := hBg.cell (j := 0) rfl
        have hE : (r : Int) - (R : Int) = ((encs l).length : Int) := by omega
        have hhs := fun (w1 : World) => headSize_any (encs l).length w1 (by omega)
        have h5 := hsz_le (n := (encs l).length) (by omega)
        have hsp := spend_any g R (hsz (encs l).length) t wr (by omega) (by omega) hBg
        have HH := hQz hhs
        have HS := hQz hsp
        have HR := hQz hR
        clear hhs hsp hI hps hT hR
        generalize hEE : (encs l).length = E at *
        generalize hHH : hsz E = H at *
        go_wp2_with (first
          | (go_at_call 128; refine (HH.out _).mono ?_; rintro e w' ⟨rfl, rfl⟩)
          | (go_at_call 127; refine HS.out.mono ?_; rintro e w2 ⟨rfl, hT2, hG2⟩))
        go_ret2
        refine gli_end rfl HI.out hX hg hBL.lt hT2 hG2 (by rw [hEE, hHH, HR.out]) ?_
        first | rfl | (apply decide_eq_decide.2; omega)
  · have hroom' : (r : Int) < (l.length : Int) := by omega
    have hno : ¬ (dep (.lst l) ≤ j + 1 ∧ (enc (.lst l)).length ≤ r) := by
      have := encs_len l
      rw [enc_lst, List.length_append]; omega
    have HN := hQz hno
    clear hno
    go_enter Tryz.func126, Tryz.ntmps126
    go_wp2
    go_ret2
    exact growpost_no (Tch.refl _ _) HN.out
theorem growList_grow (X : List Nat) (g r j k b o c : Nat) (p : Option Addr) (l : List It) (t : TypeId) (d : Int) (w : World) (h0 : w.cell? ⟨b, o, none⟩ = some (.bool true)) (h2 : w.cell? ⟨b, o + 2, none⟩ = some (.slice p l.length c))
    (hc : Calls Tryz.prog 126 #[.pointer (some ⟨g, 0, none⟩), .slice p l.length c, .int .i64 d] w (GrowPost X g t r j k (.lst l) w)) :
    Calls Tryz.prog 103 #[.pointer (some ⟨g, 0, none⟩), .pointer (some ⟨b, o, none⟩), .int .i64 d] w (GrowPost X g t r j k (.lst l) w) := by
  have hc2 := hc.mono (R' := fun e w' => ∃ v d, e = .returned (.tuple #[v, .bool d]) ∧ GrowPost X g t r j k (.lst l) w (.returned (.tuple #[v, .bool d])) w') (fun e w' h => by
    have h' := h
    obtain ⟨h1, h3⟩ := h
    split at h3
    · obtain ⟨v, rfl, _⟩ := h3; exact ⟨v, true, rfl, h'⟩
    · obtain ⟨v, rfl⟩ := h3; exact ⟨v, false, rfl, h'⟩)
  have HC := hQz hc2
  clear hc hc2
  go_enter Tryz.func103, Tryz.ntmps103
  go_wp2_with (go_at_call 126; refine HC.out.mono ?_; rintro e w2 ⟨v, d, rfl, hp⟩; have HP := hQz hp; clear hp)
  go_ret2
  exact HP.out
theorem grow_any : ∀ j, GrowOK j := by
  intro j
  induction j with
  | zero =>
    intro X g r k b o x0 vb vl it t d w hg hX hr hbX hb hG h0 h1 h2 hit hd hd0
    cases k with
    | zero => exact hit.elim
    | succ k =>
      cases it with
      | str l =>
        unfold ItC at hit
        obtain ⟨rfl, hv, hl⟩ := hit
        exact (grow_str X g r 0 b o vb l t d w hg hr hbX hb hG h0 h1 hl hv).mono fun e w' h => growpost_up (by omega) h
      | lst l =>
        unfold ItC at hit
        obtain ⟨rfl, p, c, rfl, hl, hc⟩ := hit
        obtain rfl : d = 32 := by omega
        exact growList_grow X g r 0 (k + 1) b o c p l t 32 w h0 h2 (growList_zero X g r (k + 1) c p l t w)
  | succ j ih =>
    intro X g r k b o x0 vb vl it t d w hg hX hr hbX hb hG h0 h1 h2 hit hd hd0
    cases k with
    | zero => exact hit.elim
    | succ k =>
      cases it with
      | str l =>
        unfold ItC at hit
        obtain ⟨rfl, hv, hl⟩ := hit
        exact (grow_str X g r (j + 1) b o vb l t d w hg hr hbX hb hG h0 h1 hl hv).mono fun e w' h => growpost_up (by omega) h
      | lst l =>
        unfold ItC at hit
        obtain ⟨rfl, p, c, rfl, hl, hc⟩ := hit
        refine growList_grow X g r (j + 1) (k + 1) b o c p l t d w h0 h2 ?_
        by_cases hl0 : l = []
        · subst hl0
          exact growList_any j ih X g r k 0 0 c p [] t d w hg hX hr hG hd hd0 hl.2 (fun h => absurd h (by simp)) (fun i h => absurd h (by simp))
        · obtain ⟨bl, ol, rfl, h5, h6, h7⟩ := hc hl0
          exact growList_any j ih X g r k bl ol c _ l t d w hg hX hr hG hd hd0 hl.2 (fun _ => ⟨rfl, h5, h6⟩) h7
end
section
open Go.RowKit
theorem hd_lt {base n : Nat} (hb : base ≤ 192) (hn : n ≤ 16777216) : ∀ x ∈ hd base n, x < 256 := by
  intro x hx
  unfold hd at hx
  split at hx
  · have := List.mem_singleton.1 hx; omega
  · rcases List.mem_cons.1 hx with rfl | hx
    · have := lsz_le (n := n) (by omega); omega
    · exact be_lt n x hx
theorem mem_encs {l : List It} {x : Nat} (h : x ∈ encs l) : ∃ i, ∃ h : i < l.length, x ∈ enc l[i] := by
  induction l with
  | nil => simp [encs] at h
  | cons y r ih =>
    rw [encs] at h
    rcases List.mem_append.1 h with h | h
    · exact ⟨0, by simp, h⟩
    · obtain ⟨i, hi, h⟩ := ih h
      exact ⟨i + 1, by simp; omega, by simpa using h⟩
theorem encs_item (l : List It) (i : Nat) (h : i < l.length) : (enc l[i]).length ≤ (encs l).length := by have := encs_split l i h; omega
theorem enc_lt {X : List Nat} {w : World} : ∀ {k : Nat} {x0 vb vl : Value} {it : It}, ItC X w k x0 vb vl it → (enc it).length ≤ 16777216 → ∀ x ∈ enc it, x < 256
  | 0, _, _, _, _, h, _ => h.elim
  | _ + 1, _, _, _, .str l, h, hl => by
    unfold ItC at h
    obtain ⟨_, ⟨p, c, _, _, h3, _⟩, _⟩ := h
    rw [enc_str] at hl ⊢
    unfold encS at hl ⊢
    split at hl
    · rename_i hs; rw [if_pos hs]; exact h3
    · rename_i hs; rw [if_neg hs]
      rw [List.length_append] at hl
      intro x hx
      rcases List.mem_append.1 hx with hx | hx
      · exact hd_lt (by omega) (by omega) x hx
      · exact h3 x hx
  | k + 1, _, _, _, .lst l, h, hl => by
    unfold ItC at h
    obtain ⟨_, p, c, _, _, h3⟩ := h
    rw [enc_lst] at hl ⊢
    rw [List.length_append] at hl
    intro x hx
    rcases List.mem_append.1 hx with hx | hx
    · exact hd_lt (by omega) (by omega) x hx
    · obtain ⟨i, hi, hx⟩ := mem_encs hx
      have hne : l ≠ [] := by intro e; subst e; simp at hi
      obtain ⟨b, o, _, _, _, h7⟩ := h3 hne
      obtain ⟨y0, yb, yl, _, _, _, h8⟩ := h7 i hi
      exact enc_lt h8 (by have := encs_item l i hi; omega) x hx
def PackPost (it : It) (w : World) (e : Ending) (w' : World) : Prop :=
  Tch [] w w' ∧ if dep it ≤ 32 ∧ (enc it).length ≤ 16777216 then ∃ b, w.heap.size ≤ b ∧ e = .returned (.tuple #[.slice (some ⟨b, 0, none⟩) (enc it).length (enc it).length, .int .i64 0]) ∧ Blk w' b 5 (bc (enc it).length fun i => (enc it).getD i 0) else e = .returned (.tuple #[.slice none 0 0, .int .i64 3])
theorem packpost_no {it : It} {w w' : World} (h : ¬ (dep it ≤ 32 ∧ (enc it).length ≤ 16777216)) (hT : Tch [] w w') : PackPost it w (.returned (.tuple #[.slice none 0 0, .int .i64 3])) w' := ⟨hT, by rw [if_neg h]⟩
theorem st_makeN {ops : Array Oper} {rest : List Oper} {o : Oper} {a : Act} {w : World} {Q : Exit → Act → World → Prop} (n : Nat) (hgd : o.guard = none) (x y : Operand) (ho : o.op = .makeSlice 26 x y) (hx : a.eval x = .int .i64 (n : Int)) (hy : a.eval y = .int .i64 (n : Int)) (hn : n ≤ 16777216)
    (h : wpList Tryz.prog ops Q rest (a.put o.dst (.slice (some ⟨w.heap.size, 0, none⟩) n n)) (w.alloc (.cells (bc n fun _ => 0) 5))) : wpList Tryz.prog ops Q (o :: rest) a w :=
  wpList_plain hgd fun K hK => by
    obtain ⟨i, hi, hz, hs, hb⟩ := info_parts A_info
    have hr := run_makeSlice (P := Tryz.prog) w 26 5 i (.int .u8 0) bytes_ty hi hz .i64 .i64 n n (by omega) (by omega) (by rw [hs]; simp; omega) (by rw [hb]; omega) (by omega)
    rw [hs, Int.toNat_natCast, make_bytes] at hr
    unfold Oper.wp execOp
    simp only [ho, hx, hy, Sem.run_bind, hr, Result.andThen_ok, Sem.run_pure]
    exact hK _ _ h
set_option maxHeartbeats 2000000 in
set_option maxRecDepth 100000 in
theorem pack_any (k : Nat) (x0 vb vl : Value) (it : It) (w : World) (hit : ItC [] w k x0 vb vl it) :
    Calls Tryz.prog 87 #[.agg #[x0, vb, vl]] w (PackPost it w) := by
  obtain ⟨W2, hW2⟩ : ∃ W2, W2 = (w.alloc (.cells #[x0, vb, vl] 166)).alloc (.cells #[.int .i64 16777216] 190) := ⟨_, rfl⟩
  have hT2 : Tch [] w W2 := by rw [hW2]; exact ((Tch.refl _ _).alloc _).alloc _
  have hz2 : W2.heap.size = w.heap.size + 2 := by rw [hW2]; simp
  have hG2 : Blk W2 (w.heap.size + 1) 190 (gro ((16777216 : Nat) : Int)) := by
    have := Blk.new (w.alloc (.cells #[x0, vb, vl] 166)) 190 #[.int .i64 16777216]
    rw [World.size_alloc] at this
    rw [hW2]; exact this
  have hI2 : Blk W2 w.heap.size 166 #[x0, vb, vl] := by rw [hW2]; exact (Blk.new w _ _).alloc _
  have hitm : ItC [w.heap.size + 1] W2 k x0 vb vl it := (hit.mono (Y := [w.heap.size + 1]) (fun y hy => .inr (by simp at hy; omega))).tch (hT2.mono (by simp))
  have hcall := grow_any 32 [w.heap.size + 1] (w.heap.size + 1) 16777216 k w.heap.size 0 x0 vb vl it 190 0 W2 (by simp) (by simp; omega) (by omega) (by simp) (by omega) hG2 (hI2.cell rfl) (hI2.cell rfl) (hI2.cell rfl) hitm (by omega) (by omega)
  have hlt8 := enc_lt hit
  clear hit hitm hI2 hG2
  by_cases hok : dep it ≤ 32 ∧ (enc it).length ≤ 16777216
  · obtain ⟨n, hn⟩ : ∃ n, n = (enc it).length := ⟨_, rfl⟩
    obtain ⟨R, hR⟩ : ∃ R, R = 16777216 - n := ⟨_, rfl⟩
    have hcall2 := hcall.mono (R' := fun e w' => ∃ v, e = .returned (.tuple #[v, .bool true]) ∧ Tch [w.heap.size + 1] W2 w' ∧ PcV [w.heap.size + 1] w' k v it ∧ Blk w' (w.heap.size + 1) 190 (gro (R : Int))) (fun e w' h => by
      obtain ⟨h1, h2⟩ := h
      rw [if_pos hok, ← hn, ← hR] at h2
      obtain ⟨v, h3, h4, h5⟩ := h2
      exact ⟨v, h3, h1, h4, h5⟩)
    have hput := fun (w3 : World) (v : Value) (h : PcV [w.heap.size + 1] w3 k v it) => put_any k w3.heap.size n n v it 5 (fun _ => 0) (w3.alloc (.cells (bc n fun _ => 0) 5)) ((h.mono (Y := [w3.heap.size]) (fun y hy => .inr (by simp at hy; omega))).tch ((Tch.refl _ _).alloc _)) (Blk.new _ _ _) (by omega) (Nat.le_refl _) (by omega)
    have hfin : ∀ (w3 w5 : World) (e : Ending), Tch [w.heap.size + 1] W2 w3 → PutPost w3.heap.size n n 5 (fun _ => 0) (w3.alloc (.cells (bc n fun _ => 0) 5)) (enc it) e w5 → PackPost it w (.returned (.tuple #[.slice (some ⟨w3.heap.size, 0, none⟩) n n, .int .i64 0])) w5 := fun w3 w5 e hT3 hp => by
      have hT3' := hT2.fresh hT3 (by simp)
      refine ⟨(hT3'.alloc _).fresh hp.2.1 (fun x hx => by simp at hx; rw [hx]; exact hT3'.size), ?_⟩
      rw [if_pos hok]
      refine ⟨w3.heap.size, hT3'.size, by rw [hn], ?_⟩
      have h3 := hp.2.2
      rw [← hn, Nat.sub_self] at h3
      rw [hn] at h3
      rw [← wr_zero (fun _ => 0)]
      exact h3
    have hRn : (16777216 : Int) - (R : Int) = (n : Int) := by omega
    have hn8 : n ≤ 16777216 := by omega
    have HC := hQz hcall2
    have HP := hQz hput
    have HF := hQz hfin
    clear hcall hcall2 hput hfin hlt8 hok hn hR hT2 hz2
    go_enter Tryz.func87, Tryz.ntmps87
    go_wp2_with (first
      | (go_at_call 103; rw [← hW2]; refine HC.out.mono ?_; rintro e w3 ⟨v, rfl, hT3, hv, hG3⟩; have hgc : w3.cell? ⟨w.heap.size + 1, 0, none⟩ = some (.int .i64 (R : Int)) := hG3.cell (j := 0) rfl)
      | (refine st_makeN n rfl _ _ rfl rfl rfl hn8 ?_)
      | (go_at_call 104; refine (HP.out w3 v hv).mono ?_; rintro e w5 hp; obtain ⟨u, hu⟩ : ∃ u, e = .returned u := ⟨_, hp.1⟩; subst hu; have HQ := hQz hp; clear hp))
    go_ret2
    exact HF.out _ _ _ hT3 HQ.out
  · have hcall2 := hcall.mono (R' := fun e w' => ∃ v, e = .returned (.tuple #[v, .bool false]) ∧ Tch [w.heap.size + 1] W2 w') (fun e w' h => by
      obtain ⟨h1, h2⟩ := h
      rw [if_neg hok] at h2
      obtain ⟨v, h3⟩ := h2
      exact ⟨v, h3, h1⟩)
    have HC := hQz hcall2
    have HT := hQz (And.intro hT2 hok)
    clear hcall hcall2 hlt8 hok hT2 hz2
    go_enter Tryz.func87, Tryz.ntmps87
    go_wp2_with (go_at_call 103; rw [← hW2]; refine HC.out.mono ?_; rintro e w3 ⟨v, rfl, hT3⟩)
    go_ret2
    exact packpost_no HT.out.2 (HT.out.1.fresh hT3 (by simp))
end
section
open Go.RowKit
theorem RdA.fresh {w w1 : World} {v : Value} {l : List Nat} {b : Nat} (h : RdA [] w v l) (hT : Tch [] w w1) (hb : w.heap.size ≤ b) : RdA [b] w1 v l :=
  (h.mono (Y := [b]) (fun y hy => .inr (by simp at hy; subst hy; exact hb))).tch (hT.mono (fun x hx => by simp at hx))
end
end Go.Proofs.YtopfmaoeebgjmaaGreatDoor
