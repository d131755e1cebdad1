/- TrieTwo: the walk, where there is something to show. -/
import Derived.Test.YtfdihphhmhgejaaGreatM40
import Derived.Test.YtfdihphhmhgejaaGreatM32
set_option linter.unusedVariables false
set_option linter.unusedSimpArgs false
namespace Go.Proofs.YtfdihphhmhgejaaGreat
open Go.RowKit Tr
set_option maxRecDepth 100000

theorem rBytes_ex (p : Option Addr) (n c : Nat) (w : World) : Calls Tryz.prog 9 #[.slice p n c] w fun e w' => e = .returned (.agg #[.bool false, .slice p n c, .slice none 0 0]) ∧ Tch [] w w' := by
  have hS := St.start w
  have kb := build_text
  go_enter Tryz.func9, Tryz.ntmps9
  go_wp2_with (first
    | (refine st_new hS rfl 31 rfl item_zero ?_; clear hS; intro w1 b1 hS)
    | (refine st_store (b := b1) (c' := #[.bool false, .slice p n c, .slice none 0 0]) hS rfl 31 _ _ rfl rfl rfl .head item_sizeT rfl rfl (item3_one _ _ _ _ _ _ _) ?_; clear hS; intro w2 hS))
  obtain ⟨d, hd⟩ := item_tyS
  exact st_post hS 2 31 rfl rfl rfl .head hd rfl item_sizeT rfl (fun hT => ⟨rfl, hT⟩)
theorem rList_ex (p : Option Addr) (n c : Nat) (w : World) : Calls Tryz.prog 8 #[.slice p n c] w fun e w' => e = .returned (.agg #[.bool true, .slice none 0 0, .slice p n c]) ∧ Tch [] w w' := by
  have hS := St.start w
  have kb := build_list
  go_enter Tryz.func8, Tryz.ntmps8
  go_wp2_with (first
    | (refine st_new hS rfl 31 rfl item_zero ?_; clear hS; intro w1 b1 hS)
    | (refine st_store (b := b1) (c' := #[.bool true, .slice none 0 0, .slice p n c]) hS rfl 31 _ _ rfl rfl rfl .head item_sizeT rfl rfl (item3_one _ _ _ _ _ _ _) ?_; clear hS; intro w2 hS))
  obtain ⟨d, hd⟩ := item_tyS
  exact st_post hS 2 31 rfl rfl rfl .head hd rfl item_sizeT rfl (fun hT => ⟨rfl, hT⟩)
theorem idxI (g cap n : Nat) {j : Nat} (h : j < n) (w : World) : (Instr.indexAt 29 (.slice (some ⟨g, 0, none⟩) n cap) (.int .u8 (j : Int))).run Tryz.prog w = .ok (.pointer (some ⟨g, j * 3, none⟩)) w := by
  have hadd : (⟨g, 0, none⟩ : Addr).add (j * 3) = ⟨g, j * 3, none⟩ := by unfold Addr.add; split <;> simp_all
  simp [Instr.indexAt, run_underlying items_tyT, Instr.sureAddr, asIntOf, sizeOf_one item_sizeT, h, hadd]
theorem build2P (p1 q1 p2 q2 : Option Addr) (a1 b1 c1 d1 a2 b2 c2 d2 : Nat) (w : World) :
    (Instr.buildSlice 36 2 #[(0, .agg #[.slice p1 a1 b1, .slice q1 c1 d1]), (1, .agg #[.slice p2 a2 b2, .slice q2 c2 d2])]).run Tryz.prog w = .ok (.slice (some ⟨w.heap.size, 0, none⟩) 2 2) (w.alloc (.cells #[.slice p1 a1 b1, .slice q1 c1 d1, .slice p2 a2 b2, .slice q2 c2 d2] 35)) := by kernel_rfl
theorem own_keptT {w w' : World} {base : Nat} {e : TypeId} {size n : Nat} {v : Value} {xs : List Value} (h : w.ownsRow base e size v n xs) (hT : Tch [] w w') : w'.ownsRow base e size v n xs :=
  h.kept (row := none) ⟨hT.os, hT.tape, hT.output, hT.size, fun k hk _ => hT.block k hk (by simp)⟩ (by cases v.ownBlock <;> simp)
theorem put_get (l : List Value) (j q : Nat) (x y z : Value) (h : j + 3 ≤ l.length) : (l.take j ++ [x, y, z] ++ l.drop (j + 3))[q]? = if q = j then some x else if q = j + 1 then some y else if q = j + 2 then some z else l[q]? := by
  by_cases h1 : q < j
  · rw [List.append_assoc, List.getElem?_append_left (by rw [List.length_take]; omega), List.getElem?_take_of_lt h1, if_neg (by omega), if_neg (by omega), if_neg (by omega)]
  · by_cases h2 : q < j + 3
    · have ht : (l.take j).length = j := by rw [List.length_take]; omega
      rw [List.append_assoc, List.getElem?_append_right (by rw [ht]; omega), List.getElem?_append_left (by rw [ht]; simp; omega), ht]
      rcases (show q = j ∨ q = j + 1 ∨ q = j + 2 by omega) with rfl | rfl | rfl
      · simp
      · simp
      · simp
    · have ht : (l.take j ++ [x, y, z]).length = j + 3 := by rw [List.length_append, List.length_take]; simp; omega
      rw [List.getElem?_append_right (by rw [ht]; omega), List.getElem?_drop, ht, show j + 3 + (q - (j + 3)) = q by omega, if_neg (by omega), if_neg (by omega), if_neg (by omega)]
/-- Seventeen items in a row's first cells. -/
def Row17 (cur : Array Value) (f : Nat → Value × Value × Value) : Prop := 51 ≤ cur.size ∧ ∀ i, i < 17 → cur[i * 3]? = some (f i).1 ∧ cur[i * 3 + 1]? = some (f i).2.1 ∧ cur[i * 3 + 2]? = some (f i).2.2
theorem Row17.put {cur : Array Value} {f : Nat → Value × Value × Value} {j : Nat} {x y z : Value} (h : Row17 cur f) (hj : j < 17) :
    Row17 (cur.toList.take (j * 3) ++ [x, y, z] ++ cur.toList.drop (j * 3 + 3)).toArray (fun i => if i = j then (x, y, z) else f i) := by
  obtain ⟨hs, h⟩ := h
  have hl : j * 3 + 3 ≤ cur.toList.length := by rw [Array.length_toList]; omega
  refine ⟨?_, fun i hi => ?_⟩
  · simp only [List.size_toArray, List.length_append, List.length_take, List.length_drop, Array.length_toList, List.length_cons, List.length_nil]
    omega
  · obtain ⟨h1, h2, h3⟩ := h i hi
    simp only [List.getElem?_toArray, put_get _ _ _ _ _ _ hl, Array.getElem?_toList]
    by_cases hij : i = j
    · subst hij
      simp
    · simp only [if_neg hij, show ¬ i * 3 = j * 3 by omega, show ¬ i * 3 = j * 3 + 1 by omega, show ¬ i * 3 = j * 3 + 2 by omega, show ¬ i * 3 + 1 = j * 3 by omega, show ¬ i * 3 + 1 = j * 3 + 1 by omega, show ¬ i * 3 + 1 = j * 3 + 2 by omega, show ¬ i * 3 + 2 = j * 3 by omega, show ¬ i * 3 + 2 = j * 3 + 1 by omega, show ¬ i * 3 + 2 = j * 3 + 2 by omega, if_false]
      exact ⟨h1, h2, h3⟩
def ez : Value × Value × Value := (.bool false, .slice none 0 0, .slice none 0 0)
theorem zs_get : ∀ (n i : Nat), i < n → (zs n)[i * 3]? = some ez.1 ∧ (zs n)[i * 3 + 1]? = some ez.2.1 ∧ (zs n)[i * 3 + 2]? = some ez.2.2
  | n + 1, 0, _ => ⟨rfl, rfl, rfl⟩
  | n + 1, i + 1, h => by
    have ih := zs_get n i (by omega)
    have e : zs (n + 1) = [Value.bool false, .slice none 0 0, .slice none 0 0] ++ zs n := by unfold zs; rw [List.replicate_succ]; rfl
    rw [e, show (i + 1) * 3 = i * 3 + 3 by omega]
    refine ⟨?_, ?_, ?_⟩
    · rw [List.getElem?_append_right (by simp)]; simpa using ih.1
    · rw [List.getElem?_append_right (by simp)]; simpa using ih.2.1
    · rw [List.getElem?_append_right (by simp)]; simpa using ih.2.2
theorem Row17.start {cur : Array Value} {cap : Nat} (hcap : 17 ≤ cap) (hcs : cur.size = cap * 3) (htk : cur.toList.take (17 * 3) = zs 17) : Row17 cur (fun _ => ez) := by
  refine ⟨by omega, fun i hi => ?_⟩
  have h := zs_get 17 i hi
  rw [← htk, List.getElem?_take_of_lt (by omega), List.getElem?_take_of_lt (by omega), List.getElem?_take_of_lt (by omega)] at h
  simpa only [Array.getElem?_toList] using h
theorem leaf_itc {W : World} {bi bu a : Nat} {p : Option Addr} {c : Nat} {x : List Nat} {z : Value} (hBi : Blk W bi 31 #[.bool false, .slice (some ⟨bu, 0, none⟩) 1 1, .slice none 0 0, .bool false, .slice p x.length c, .slice none 0 0]) (hBu : Blk W bu 5 #[.int .u8 ((48 + a : Nat) : Int)]) (ha : a < 16) (hx : RdA [] W (.slice p x.length c) x) (hl : x.length < 4611686018427387904) :
    ItC [] W (dep (leaf2 a x) + 1) (.bool true) z (.slice (some ⟨bi, 0, none⟩) 2 2) (leaf2 a x) := by
  unfold leaf2
  refine itc_list (fun i => if i = 0 then (.bool false, .slice (some ⟨bu, 0, none⟩) 1 1, .slice none 0 0) else (.bool false, .slice p x.length c, .slice none 0 0)) rfl (by decide) hBi.lt (by simp) fun i hi => ?_
  match i, hi with
  | 0, _ =>
    refine ⟨hBi.cell (j := 0) rfl, hBi.cell (j := 1) rfl, hBi.cell (j := 2) rfl, ?_⟩
    show ItC [] W (dep (.str [48 + a]) + 1) _ _ _ (.str [48 + a])
    rw [dep_str]
    unfold ItC
    exact ⟨rfl, (RdB.blk (n := 1) (f := fun _ => 48 + a) hBu (fun _ _ => by omega)).rdA0, by simp⟩
  | 1, _ =>
    refine ⟨hBi.cell (j := 3) rfl, hBi.cell (j := 4) rfl, hBi.cell (j := 5) rfl, ?_⟩
    show ItC [] W (dep (.str x) + 1) _ _ _ (.str x)
    rw [dep_str]
    unfold ItC
    exact ⟨rfl, hx, hl⟩
/-- The list of seventeen. -/
def two17 (P R a b : Nat) (x y : List Nat) : List It := (List.range 16).map (fun d => if d = P then leaf2 a x else if d = R then leaf2 b y else .str []) ++ [.str []]
theorem two17_get {P R a b : Nat} {x y : List Nat} (hP : P < 16) (hR : R < 16) : ∀ i (h : i < (two17 P R a b x y).length), (two17 P R a b x y)[i] = if i = P then leaf2 a x else if i = R then leaf2 b y else .str [] := by
  intro i h
  have hl : (two17 P R a b x y).length = 17 := by simp [two17]
  rcases Nat.lt_or_ge i 16 with h16 | h16
  · simp only [two17]
    rw [List.getElem_append_left (by simpa using h16)]
    simp
  · have : i = 16 := by omega
    subst this
    rw [if_neg (by omega), if_neg (by omega)]
    simp [two17]
theorem two_itc {W : World} {g cap bi1 bi2 P R a b : Nat} {x y : List Nat} {cur : Array Value} {z : Value} (hBg : Blk W g 31 cur) (hcap : 17 ≤ cap)
    (hR : Row17 cur fun i => if i = R then (.bool true, .slice none 0 0, .slice (some ⟨bi2, 0, none⟩) 2 2) else if i = P then (.bool true, .slice none 0 0, .slice (some ⟨bi1, 0, none⟩) 2 2) else ez) (hne : P ≠ R) (hP16 : P < 16) (hR16 : R < 16)
    (h1 : ∀ z, ItC [] W (dep (leaf2 a x) + 1) (.bool true) z (.slice (some ⟨bi1, 0, none⟩) 2 2) (leaf2 a x)) (h2 : ∀ z, ItC [] W (dep (leaf2 b y) + 1) (.bool true) z (.slice (some ⟨bi2, 0, none⟩) 2 2) (leaf2 b y)) :
    ItC [] W (dep (.lst (two17 P R a b x y)) + 1) (.bool true) z (.slice (some ⟨g, 0, none⟩) 17 cap) (.lst (two17 P R a b x y)) := by
  have hl : (two17 P R a b x y).length = 17 := by simp [two17]
  rw [dep_lst]
  unfold ItC
  refine ⟨rfl, some ⟨g, 0, none⟩, cap, by rw [hl], ⟨by rw [hl]; exact hcap, by rw [hl]; decide⟩, fun _ => ⟨g, 0, rfl, hBg.lt, by simp, fun i hi => ?_⟩⟩
  have hi17 : i < 17 := by omega
  obtain ⟨g1, g2, g3⟩ := hR.2 i hi17
  have hm := deps_mem (l := two17 P R a b x y) (x := (two17 P R a b x y)[i]'hi) (List.getElem_mem hi)
  refine ⟨_, _, _, (by rw [Nat.zero_add]; exact hBg.cell g1), (by rw [Nat.zero_add]; exact hBg.cell g2), (by rw [Nat.zero_add]; exact hBg.cell g3), ?_⟩
  have key : ItC [] W (dep ((two17 P R a b x y)[i]'hi) + 1) (if i = R then ((.bool true, .slice none 0 0, .slice (some ⟨bi2, 0, none⟩) 2 2) : Value × Value × Value) else if i = P then (.bool true, .slice none 0 0, .slice (some ⟨bi1, 0, none⟩) 2 2) else ez).1 (if i = R then ((.bool true, .slice none 0 0, .slice (some ⟨bi2, 0, none⟩) 2 2) : Value × Value × Value) else if i = P then (.bool true, .slice none 0 0, .slice (some ⟨bi1, 0, none⟩) 2 2) else ez).2.1 (if i = R then ((.bool true, .slice none 0 0, .slice (some ⟨bi2, 0, none⟩) 2 2) : Value × Value × Value) else if i = P then (.bool true, .slice none 0 0, .slice (some ⟨bi1, 0, none⟩) 2 2) else ez).2.2 ((two17 P R a b x y)[i]'hi) := by
    rw [two17_get hP16 hR16 i hi]
    by_cases hiP : i = P
    · subst hiP
      simp only [if_true, if_neg hne]
      exact h1 _
    · by_cases hiR : i = R
      · subst hiR
        simp only [if_neg hiP, if_true]
        exact h2 _
      · simp only [if_neg hiP, if_neg hiR]
        show ItC [] W (dep (.str []) + 1) (.bool false) (.slice none 0 0) (.slice none 0 0) (.str [])
        rw [dep_str]
        unfold ItC
        exact ⟨rfl, ⟨none, 0, rfl, Nat.le_refl _, by simp, fun h => absurd rfl h⟩, by simp⟩
  exact key.up (by omega)
theorem two_dep (P R a b : Nat) (x y : List Nat) : dep (.lst (two17 P R a b x y)) ≤ 32 := by
  rw [dep_lst]
  have := deps_le_of (l := two17 P R a b x y) (m := 5) (by
    intro t ht
    unfold two17 at ht
    rcases List.mem_append.1 ht with ht | ht
    · obtain ⟨d, _, rfl⟩ := List.mem_map.1 ht
      split
      · simp [leaf2, dep, deps]
      · split
        · simp [leaf2, dep, deps]
        · rw [dep_str]; omega
    · rw [List.mem_singleton] at ht; subst ht; rw [dep_str]; omega)
  omega
theorem leaf2_len {a : Nat} {x : List Nat} (hx : x.length ≤ 20) : (enc (leaf2 a x)).length ≤ 40 := by
  have h1 := encS_leT (l := [48 + a]) (by simp)
  have h2 := encS_leT (l := x) (by omega)
  have h3 : (encs [.str [48 + a], .str x]).length ≤ 31 := by
    simp only [encs, enc_str, List.length_append, List.length_nil]
    simp only [List.length_cons, List.length_nil] at h1
    omega
  have := enc_lst_leT (l := [.str [48 + a], .str x]) (by omega)
  unfold leaf2
  omega
theorem two_len {P R a b : Nat} {x y : List Nat} (hx : x.length ≤ 20) (hy : y.length ≤ 20) : (enc (.lst (two17 P R a b x y))).length ≤ 1000 := by
  have h0 : (enc (.str [])).length ≤ 40 := by rw [enc_empty]; simp
  have h1 := encs_le_of (l := two17 P R a b x y) (m := 40) (by
    intro t ht
    unfold two17 at ht
    rcases List.mem_append.1 ht with ht | ht
    · obtain ⟨d, _, rfl⟩ := List.mem_map.1 ht
      split
      · exact leaf2_len hx
      · split
        · exact leaf2_len hy
        · exact h0
    · rw [List.mem_singleton] at ht; subst ht; exact h0)
  have hl : (two17 P R a b x y).length = 17 := by simp [two17]
  rw [hl] at h1
  have := enc_lst_leT (l := two17 P R a b x y) (by omega)
  omega
theorem two_may {A B : Nat} {x y : List Nat} (hab : A / 16 ≠ B / 16) (hx1 : 1 ≤ x.length) (hx2 : x.length ≤ 20) (hy1 : 1 ≤ y.length) (hy2 : y.length ≤ 20) : mayE [([A], x), ([B], y)] = 0 := by
  have hAB : A ≠ B := fun e => hab (by rw [e])
  have hx : x.isEmpty = false := by cases x with | nil => simp at hx1 | cons => rfl
  have hy : y.isEmpty = false := by cases y with | nil => simp at hy1 | cons => rfl
  have h1 : ¬ (100000 < [([A], x), ([B], y)].length ∨ ([([A], x), ([B], y)] : List En).any longP = true) := by
    simp [longP]
    omega
  have h2 : ¬ (Empty' [([A], x), ([B], y)] = true ∨ ¬ Apart [([A], x), ([B], y)]) := by
    simp [Empty', Apart, hx, hy, hAB]
  unfold mayE
  rw [if_neg h1, if_neg h2]
theorem two_rootW {A B : Nat} {x y : List Nat} (hab : A / 16 ≠ B / 16) (hx1 : 1 ≤ x.length) (hx2 : x.length ≤ 20) (hy1 : 1 ≤ y.length) (hy2 : y.length ≤ 20) : rootW [([A], x), ([B], y)] = hashN (enc (.lst (two17 (A / 16) (B / 16) (A % 16) (B % 16) x y))) := by
  unfold rootW
  rw [if_pos (two_may hab hx1 hx2 hy1 hy2)]
  have he : entries [([A], x), ([B], y)] = [([A / 16, A % 16], x), ([B / 16, B % 16], y)] := rfl
  rw [he, two_list HL 198 (A / 16) (A % 16) (B / 16) (B % 16) x y hab (by omega) (by omega) hx2 hy2]
  rfl
theorem two_pairs {W : World} {bp k1 k2 A B : Nat} {p1 p2 : Option Addr} {c1 c2 : Nat} {x y : List Nat} (hB : Blk W bp 35 #[.slice (some ⟨k1, 0, none⟩) 1 1, .slice p1 x.length c1, .slice (some ⟨k2, 0, none⟩) 1 1, .slice p2 y.length c2]) (h1 : Blk W k1 5 #[.int .u8 (A : Int)]) (h2 : Blk W k2 5 #[.int .u8 (B : Int)]) (hA : A < 256) (hBB : B < 256)
    (hx : RdB W (.slice p1 x.length c1) x) (hy : RdB W (.slice p2 y.length c2) y) : PairsAt W (.slice (some ⟨bp, 0, none⟩) 2 2) [([A], x), ([B], y)] :=
  ⟨_, _, rfl, Nat.le_refl _, fun _ => ⟨bp, 0, rfl, hB.lt, fun i hi => by
    match i, hi with
    | 0, _ => exact ⟨_, _, hB.cell (j := 0) rfl, hB.cell (j := 1) rfl, RdB.blk (n := 1) (f := fun _ => A) h1 (fun _ _ => hA), hx⟩
    | 1, _ => exact ⟨_, _, hB.cell (j := 2) rfl, hB.cell (j := 3) rfl, RdB.blk (n := 1) (f := fun _ => B) h2 (fun _ _ => hBB), hy⟩⟩⟩
end Go.Proofs.YtfdihphhmhgejaaGreat
