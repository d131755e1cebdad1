/- The document's part: lists; any bytes. -/
import Derived.Test.YtnkfkahbkjdnpaaR28
namespace Go.Proofs.Ytnkfkahbkjdnpaa
open Go.RowKit

/-- What holds behind some rounds of the loop over a list's bytes. -/
def PTI (w : World) (j : Nat) (b4 b14 : Nat) (body : List Nat) (u : Value) (q : List Nat) (ts : List It) (wr : World) : Prop :=
  ∃ p n c, St [] w wr [(b14, 25, #[.bool true, .slice none 0 0, .slice p n c]), (b4, 25, #[.bool false, .slice none 0 0, .slice none 0 0])] ∧ n = ts.length ∧ IRow [b14, b4] w.heap.size (j + 1) wr (.slice p n c) ts ∧ (∀ g, (Value.slice p n c).ownBlock = some g → g ≠ b14 ∧ g ≠ b4) ∧ RdA [] w u q ∧ q.length + ts.length ≤ body.length ∧ decL (dec j) body.length body = app ts (decL (dec j) (body.length - ts.length) q)
theorem pti_start {w w5 : World} {j b4 b14 : Nat} {body : List Nat} {u : Value} (hS : St [] w w5 [(b14, 25, #[.bool true, .slice none 0 0, .slice none 0 0]), (b4, 25, #[.bool false, .slice none 0 0, .slice none 0 0])]) (hu : RdA [] w u body) : PTI w j b4 b14 body u body [] w5 :=
  ⟨none, 0, 0, hS, rfl, IRow.nil _ _ _ _, fun g hg => by simp [Value.ownBlock] at hg, hu, by simp, by simp only [List.length_nil, Nat.sub_zero]; cases decL (dec j) body.length body <;> rfl⟩
theorem pti_err {w wr : World} {j b4 b14 c : Nat} {body q : List Nat} {u : Value} {ts : List It} (h : PTI w j b4 b14 body u q ts wr) (hq : q ≠ []) (hc : dec j q = .error c) : decL (dec j) body.length body = .error c := by
  obtain ⟨_, _, _, _, _, _, _, _, h4, h5⟩ := h
  have hl := List.length_pos_iff.2 hq
  obtain ⟨m, hm⟩ : ∃ m, body.length - ts.length = m + 1 := ⟨body.length - ts.length - 1, by omega⟩
  rw [h5, hm, decL_err hq hc]; rfl
theorem pti_end {w wr : World} {j b4 b14 : Nat} {body : List Nat} {u : Value} {ts : List It} (h : PTI w j b4 b14 body u [] ts wr) : decL (dec j) body.length body = .ok ts := by
  obtain ⟨_, _, _, _, _, _, _, _, h4, h5⟩ := h
  rw [h5, decL_nil]
  simp [app]
theorem pti_dec {w wr : World} {j b4 b14 : Nat} {body q r : List Nat} {u : Value} {ts : List It} {t : It} (h : PTI w j b4 b14 body u q ts wr) (hq : q ≠ []) (hc : dec j q = .ok (t, r)) : r.length + (ts ++ [t]).length ≤ body.length ∧ decL (dec j) body.length body = app (ts ++ [t]) (decL (dec j) (body.length - (ts ++ [t]).length) r) := by
  obtain ⟨_, _, _, _, _, _, _, _, h4, h5⟩ := h
  have hl := List.length_pos_iff.2 hq
  obtain ⟨_, _, _, _, hlt⟩ := dec_rest hc
  obtain ⟨m, hm⟩ : ∃ m, body.length - ts.length = m + 1 := ⟨body.length - ts.length - 1, by omega⟩
  refine ⟨by rw [List.length_append, List.length_singleton]; omega, ?_⟩
  rw [h5, hm, decL_ok hq hc, app_app, List.length_append, List.length_singleton, show body.length - (ts.length + 1) = m by omega]
/-- The end at a list. -/
theorem part_lst_end {j x h n0 V A : Nat} {r body : List Nat} {ts : List It} {w wr w6 : World} {p : Option Addr} {n c b4 b14 : Nat} {u : Value} {m : Int} (hg : 192 ≤ x) (hs : spl (x :: r) = some (h, n0)) (hA : A = h) (hV : V = n0) (hm : m = ((A + V : Nat) : Int)) (hb : body = ((x :: r).drop h).take n0) (hlen : (x :: r).length ≤ 16777216)
    (hI : PTI w j b4 b14 body u [] ts wr) (hR : IRow [b14, b4] w.heap.size (j + 1) wr (.slice p n c) ts) (hn : n = ts.length) (hown : ∀ g, (Value.slice p n c).ownBlock = some g → g ≠ b14 ∧ g ≠ b4) (hO : Only b4 wr w6) (hw4 : w.heap.size ≤ b4) (hT : Tch [] w w6) :
    PartPost (j + 1) (x :: r) w (.returned (.tuple #[.agg #[.bool true, .slice none 0 0, .slice p n c], .int .i64 m, .int .i64 0])) w6 := by
  subst hA; subst hV
  have hle := spl_some hs
  have hbl : body.length = V := by rw [hb, List.length_take, List.length_drop]; omega
  have hdec : dec (j + 1) (x :: r) = .ok (.lst ts, (x :: r).drop (A + V)) := by
    rw [dec_eq, if_neg (by simp), hs]; simp only []; rw [if_neg (by simp; omega), ← hb, ← hbl, pti_end hI]
  have hts : ts.length ≤ body.length := by obtain ⟨_, _, _, _, _, _, _, _, h4, _⟩ := hI; simpa using h4
  refine partpost_yes (k := j + 2) hdec hm (by rw [List.length_drop]; omega) rfl (by omega) (fun X hX => ?_) hT
  exact (hR.only hO (by simp) (fun e => (hown _ e).2 rfl)).itc (vb := .slice none 0 0) (Y := X) (by omega) (fun y hy => .inr (hX y hy))
theorem part_lst_err {j x h n0 ec : Nat} {r body : List Nat} (hg : 192 ≤ x) (hs : spl (x :: r) = some (h, n0)) (hb : body = ((x :: r).drop h).take n0) (he : decL (dec j) body.length body = .error ec) : dec (j + 1) (x :: r) = .error ec := by
  have hle := spl_some hs
  have hbl : body.length = n0 := by rw [hb, List.length_take, List.length_drop]; omega
  rw [dec_eq, if_neg (by simp), hs]; simp only []; rw [if_neg (by simp; omega), ← hb, ← hbl, he]
theorem IRow.tch {X bs : List Nat} {B k : Nat} {w w' : World} {v : Value} {ts : List It} (h : IRow X B k w v ts) (hT : Tch bs w w') (hbs : ∀ b ∈ bs, b ∈ X ∧ v.ownBlock ≠ some b) : IRow X B k w' v ts := by
  obtain ⟨us, h1, h2⟩ := h
  have hown : w'.ownsRow B 25 3 v ts.length us := by
    refine ⟨h1.1, ?_⟩
    rcases h1.2 with hn | ⟨g, cap, cur, rfl, hb, hgg, rest⟩
    · exact .inl hn
    · exact .inr ⟨g, cap, cur, rfl, hb, by rw [hT.block g (Array.getElem?_eq_some_iff.1 hgg).1 (fun hm => (hbs g hm).2 rfl)]; exact hgg, rest⟩
  refine ⟨us, hown, fun i hi => ?_⟩
  obtain ⟨y0, yb, yl, h3, h4, h5, h6⟩ := h2 i hi
  exact ⟨y0, yb, yl, h3, h4, h5, fun Z hZ => (h6 Z hZ).tch (hT.mono (fun b hb => .inl (List.mem_append_right _ (List.mem_append_left _ (hbs b hb).1))))⟩
theorem St.of_two {w w' : World} {b b2 : Nat} {t t2 : TypeId} {c c2 : Array Value} (hT : Tch [] w w') (h : Blk w' b t c) (h2 : Blk w' b2 t2 c2) (hn : b ≠ b2) (hb : w.heap.size ≤ b) (hb2 : w.heap.size ≤ b2) : St [] w w' [(b, t, c), (b2, t2, c2)] :=
  ⟨hT, fun e he => by
    rcases List.mem_cons.1 he with rfl | he
    · exact ⟨h, .inl hb⟩
    · rcases List.mem_singleton.1 he with rfl; exact ⟨h2, .inl hb2⟩, List.pairwise_cons.2 ⟨fun e he => by rcases List.mem_singleton.1 he with rfl; exact hn, List.pairwise_singleton _ _⟩⟩
end Go.Proofs.Ytnkfkahbkjdnpaa
