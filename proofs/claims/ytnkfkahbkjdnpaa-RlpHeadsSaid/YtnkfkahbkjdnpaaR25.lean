/- The document's part: bytes that begin with no item, or with a byte string. -/
import Derived.Test.YtnkfkahbkjdnpaaR24
namespace Go.Proofs.Ytnkfkahbkjdnpaa
open Go.RowKit

theorem results_cell_tmp2 {fn : Func} {p u u2 : Tmp} {ty : TypeId} (h : fn.results = #[.cell p ty, .tmp u, .tmp u2]) (tmps : Array Value) (P : Program) (w : World) :
    (results fn tmps).run P w =
      ((asAddr (tmps.getD p undef)).run P w).andThen fun a w₁ => ((loadVar ty a).run P w₁).andThen fun v w₂ => .ok (.tuple #[v, tmps.getD u undef, tmps.getD u2 undef]) w₂ := by
  simp only [results, h]
  simp [Sem.run_bind, Result.andThen]
theorem post_cell_two {P : Program} {fn : Func} {R : Ending → World → Prop} {a : Act} {w : World} {b : Nat} {t : TypeId} {c : Array Value} {d : TypeDesc} {n : Nat} {v v2 : Value} (p u u2 : Tmp) (ty : TypeId) (hr : fn.results = #[.cell p ty, .tmp u, .tmp u2]) (hd0 : a.defers = [])
    (hp : a.tmps.getD p undef = .pointer (some ⟨b, 0, none⟩)) (hv : a.tmps.getD u undef = v) (hv2 : a.tmps.getD u2 undef = v2) (h : Blk w b t c)
    (hu : P.underlying ty = some d) (hd : (match d with | .struct _ | .array _ _ => true | _ => false) = true) (hi : (P.info? ty).map (·.size) = some n) (hn : c.size = n)
    (hR : R (.returned (.tuple #[.agg c, v, v2])) w) : bodyPost P fn R .ret a w := by
  have hres : (results fn a.tmps).run P w = .ok (.tuple #[.agg c, a.tmps.getD u undef, a.tmps.getD u2 undef]) w := by
    rw [results_cell_tmp2 hr, hp]
    have e : (asAddr (.pointer (some ⟨b, 0, none⟩))).run P w = .ok ⟨b, 0, none⟩ w := rfl
    rw [e]
    simp only [Result.andThen_ok, run_loadVar_row w b t ty c (0, 0) d h hu hd (by rw [hn]; exact hi)]
  exact bodyPost_ret hres hd0 (by rw [hv, hv2]; exact hR)
/-- What part answers; j: how many lists may still be begun. -/
def PartPost (j : Nat) (l : List Nat) (w : World) (e : Ending) (w' : World) : Prop :=
  Tch [] w w' ∧ ∃ d p1 n1 c1 p2 n2 c2, ∃ cnt en : Nat, e = .returned (.tuple #[.agg #[.bool d, .slice p1 n1 c1, .slice p2 n2 c2], .int .i64 (cnt : Int), .int .i64 (en : Int)]) ∧ match dec j l with
    | .error c => en = c ∧ ItF w w' 1 (.bool d) (.slice p1 n1 c1) (.slice p2 n2 c2) (.str [])
    | .ok (t, r) => en = 0 ∧ cnt + r.length = l.length ∧ r = l.drop cnt ∧ ItF w w' (j + 1) (.bool d) (.slice p1 n1 c1) (.slice p2 n2 c2) t
theorem partpost_no {j ec : Nat} {l : List Nat} {w w' : World} {n : Int} (h : dec j l = .error ec) (hn : n = (ec : Int)) (hT : Tch [] w w') : PartPost j l w (.returned (.tuple #[.agg #[.bool false, .slice none 0 0, .slice none 0 0], .int .i64 0, .int .i64 n])) w' := by
  refine ⟨hT, _, _, _, _, _, _, _, 0, ec, by rw [hn]; rfl, ?_⟩
  rw [h]
  refine ⟨rfl, fun X _ => ?_⟩
  unfold ItC
  exact ⟨rfl, (RdB.nil w').rdA' X, by simp⟩
theorem partpost_yes {j cnt k : Nat} {l r : List Nat} {t : It} {w w' : World} {d : Bool} {p1 p2 : Option Addr} {n1 c1 n2 c2 : Nat} {n : Int} (h : dec j l = .ok (t, r)) (hn : n = (cnt : Int)) (hc : cnt + r.length = l.length) (hr : r = l.drop cnt) (hk : k ≤ j + 1) (hI : ItF w w' k (.bool d) (.slice p1 n1 c1) (.slice p2 n2 c2) t) (hT : Tch [] w w') :
    PartPost j l w (.returned (.tuple #[.agg #[.bool d, .slice p1 n1 c1, .slice p2 n2 c2], .int .i64 n, .int .i64 0])) w' := by
  refine ⟨hT, _, _, _, _, _, _, _, cnt, 0, by rw [hn]; rfl, ?_⟩
  rw [h]
  exact ⟨rfl, hc, hr, fun X hX => (hI X hX).up hk⟩
def PartOK (j : Nat) : Prop := ∀ (v : Value) (l : List Nat) (w : World), l.length ≤ 16777216 → RdA [] w v l → Calls Try.prog 25 #[v, .int .i64 (j : Int)] w (PartPost j l w)
theorem and63 (x : Nat) (h : x < 256) : bits BinOp.and IntKind.i64 (x : Int) 63 = ((x % 64 : Nat) : Int) := by
  have all : ∀ i : Fin 256, bits BinOp.and IntKind.i64 (i.val : Int) 63 = ((i.val % 64 : Nat) : Int) := by decide +kernel
  exact all ⟨x, h⟩
set_option maxHeartbeats 1000000 in
set_option maxRecDepth 100000 in
theorem part_nil (j : Nat) (v : Value) (w : World) (hv : RdA [] w v []) : Calls Try.prog 25 #[v, .int .i64 (j : Int)] w (PartPost j [] w) := by
  obtain ⟨f0, f1, f2, hty, _⟩ := item_ty
  have hdec : dec j [] = .error 4 := by rw [dec_eq, if_neg (by simp)]; rfl
  obtain ⟨p, c, rfl, _⟩ := hv
  have HD := Lib.hid hdec
  have hS := St.start w
  clear hdec
  simp only [List.length_nil] at *
  go_enter Try.func25, Try.ntmps25
  go_wp2_with (first | (refine st_new (L := []) hS rfl 25 rfl item_zero ?_; clear hS; intro w4 b4 hS) | (refine st_store (c' := #[.bool false, .slice none 0 0, .slice none 0 0]) hS rfl 25 _ _ rfl rfl rfl (by repeat (first | exact Upd.head | apply Upd.tail)) item_size (by rfl) (by rfl) (one3 rfl rfl rfl) ?_; clear hS; intro w5 hS))
  exact post_cell_two 4 5 6 25 rfl rfl rfl rfl rfl (hS.get .head) hty rfl item_size rfl (partpost_no HD.out rfl hS.frame)
set_option maxHeartbeats 1000000 in
set_option maxRecDepth 100000 in
theorem part_single (j : Nat) (v : Value) (x : Nat) (r : List Nat) (w : World) (hn : (x :: r).length ≤ 16777216) (hv : RdA [] w v (x :: r)) (hx : x < 128) : Calls Try.prog 25 #[v, .int .i64 (j : Int)] w (PartPost j (x :: r) w) := by
  obtain ⟨f0, f1, f2, hty, _⟩ := item_ty
  have hS := St.start w
  obtain ⟨p, n, c, rfl⟩ := slice_keep hv
  obtain ⟨p', c', hp, hcap, hb, h4⟩ := id hv
  have hxb := hb x List.mem_cons_self
  cases hp
  obtain ⟨b, o, rfl, hbw, _, h8⟩ := h4 (by simp)
  have hc0 := h8 0 (by simp)
  rw [Nat.add_zero] at hc0
  simp only [List.getD_cons_zero] at hc0
  have hdec : dec j (x :: r) = .ok (.str [x], r) := by
    rw [dec_eq, if_neg (by simp; omega), spl_cons, if_pos hx]; simp only []; rw [if_pos (by simp; omega)]; rfl
  have HD := Lib.hid hdec
  have hx2 : (x : Int) < 128 := by omega
  have hk4 : ∀ w' : World, Tch [] w w' → w'.cell? ⟨b, o, none⟩ = some (.int .u8 (x : Int)) := fun w' hT => (hT.cell (p := ⟨b, o, none⟩) hbw (by simp)).trans hc0
  have HK := Lib.hid hk4
  clear hdec h8 h4 hv hb hk4 hc0
  simp only [List.length_cons] at *
  go_enter Try.func25, Try.ntmps25
  go_wp2_with (first
    | (refine st_new (L := []) hS rfl 25 rfl item_zero ?_; clear hS; intro w4 b4 hS; have hc4 := HK.out w4 hS.frame)
    | (refine st_store (c' := #[.bool false, .slice (some ⟨w4.heap.size, 0, none⟩) 1 1, .slice none 0 0]) (hS.new 5 #[.int .u8 (x : Int)]) rfl 25 _ _ rfl rfl rfl (by repeat (first | exact Upd.head | apply Upd.tail)) item_size (by rfl) (by rfl) (one3 rfl rfl rfl) ?_; have hz := hS.frame.size; clear hS; intro w5 hS))
  refine post_cell_two 4 5 6 25 rfl rfl rfl rfl rfl (hS.get (.tail .head)) hty rfl item_size rfl (partpost_yes (cnt := 1) (k := 1) HD.out rfl (by simp; omega) (by simp) (by omega) (fun X hX => ?_) hS.frame)
  have hB := hS.get .head
  unfold ItC
  refine ⟨rfl, ⟨_, _, rfl, Nat.le_refl _, by simp; omega, fun _ => ⟨w4.heap.size, 0, rfl, hB.lt, fun hm => by have := hX _ hm; omega, fun i hi => ?_⟩⟩, by simp⟩
  obtain rfl : i = 0 := by simp at hi; exact hi
  exact hB.cell rfl
set_option maxHeartbeats 1000000 in
set_option maxRecDepth 100000 in
theorem part_deep (j : Nat) (v : Value) (x : Nat) (r : List Nat) (w : World) (hn : (x :: r).length ≤ 16777216) (hv : RdA [] w v (x :: r)) (hx : 192 ≤ x) (hj : j = 0) : Calls Try.prog 25 #[v, .int .i64 (j : Int)] w (PartPost j (x :: r) w) := by
  obtain ⟨f0, f1, f2, hty, _⟩ := item_ty
  have hS := St.start w
  obtain ⟨p, n, c, rfl⟩ := slice_keep hv
  obtain ⟨p', c', hp, hcap, hb, h4⟩ := id hv
  have hxb := hb x List.mem_cons_self
  cases hp
  obtain ⟨b, o, rfl, hbw, _, h8⟩ := h4 (by simp)
  have hc0 := h8 0 (by simp)
  rw [Nat.add_zero] at hc0
  simp only [List.getD_cons_zero] at hc0
  have hdec : dec j (x :: r) = .error 3 := by rw [dec_eq, if_pos ⟨by simpa using hx, hj⟩]
  have HD := Lib.hid hdec
  subst hj
  have hx2 : ¬ (x : Int) < 128 := by omega
  have hx3 : (192 : Int) ≤ x := by omega
  have hk4 : ∀ w' : World, Tch [] w w' → w'.cell? ⟨b, o, none⟩ = some (.int .u8 (x : Int)) := fun w' hT => (hT.cell (p := ⟨b, o, none⟩) hbw (by simp)).trans hc0
  have HK := Lib.hid hk4
  clear hdec h8 h4 hv hb hk4 hc0
  simp only [List.length_cons] at *
  go_enter Try.func25, Try.ntmps25
  go_wp2_with (first
    | (refine st_new (L := []) hS rfl 25 rfl item_zero ?_; clear hS; intro w4 b4 hS; have hc4 := HK.out w4 hS.frame)
    | (refine st_store (c' := #[.bool false, .slice none 0 0, .slice none 0 0]) hS rfl 25 _ _ rfl rfl rfl (by repeat (first | exact Upd.head | apply Upd.tail)) item_size (by rfl) (by rfl) (one3 rfl rfl rfl) ?_; clear hS; intro w5 hS))
  exact post_cell_two 4 5 6 25 rfl rfl rfl rfl rfl (hS.get .head) hty rfl item_size rfl (partpost_no HD.out rfl hS.frame)
end Go.Proofs.Ytnkfkahbkjdnpaa
