/- TrieTwo: the walk, where there is something to show. -/
import Derived.Test.YtfdihphhmhgejaaM43
import Derived.Test.YtfdihphhmhgejaaM32
set_option linter.unusedVariables false
set_option linter.unusedSimpArgs false
namespace Go.Proofs.Ytfdihphhmhgejaa
open Go.RowKit Tr
set_option maxRecDepth 100000

theorem rBytes_ex (p : Option Addr) (n c : Nat) (w : World) : Calls Try.prog 6 #[.slice p n c] w fun e w' => e = .returned (.agg #[.bool false, .slice p n c, .slice none 0 0]) ∧ Tch [] w w' := by
  have hS := St.start w
  have kb := build_text
  go_enter Try.func6, Try.ntmps6
  go_wp2_with (first
    | (refine st_new hS rfl 27 rfl item_zero ?_; clear hS; intro w1 b1 hS)
    | (refine st_store (b := b1) (c' := #[.bool false, .slice p n c, .slice none 0 0]) hS rfl 27 _ _ rfl rfl rfl .head item_sizeT rfl rfl (item3_one _ _ _ _ _ _ _) ?_; clear hS; intro w2 hS))
  obtain ⟨d, hd⟩ := item_tyS
  exact st_post hS 2 27 rfl rfl rfl .head hd rfl item_sizeT rfl (fun hT => ⟨rfl, hT⟩)
theorem rList_ex (p : Option Addr) (n c : Nat) (w : World) : Calls Try.prog 7 #[.slice p n c] w fun e w' => e = .returned (.agg #[.bool true, .slice none 0 0, .slice p n c]) ∧ Tch [] w w' := by
  have hS := St.start w
  have kb := build_list
  go_enter Try.func7, Try.ntmps7
  go_wp2_with (first
    | (refine st_new hS rfl 27 rfl item_zero ?_; clear hS; intro w1 b1 hS)
    | (refine st_store (b := b1) (c' := #[.bool true, .slice none 0 0, .slice p n c]) hS rfl 27 _ _ rfl rfl rfl .head item_sizeT rfl rfl (item3_one _ _ _ _ _ _ _) ?_; clear hS; intro w2 hS))
  obtain ⟨d, hd⟩ := item_tyS
  exact st_post hS 2 27 rfl rfl rfl .head hd rfl item_sizeT rfl (fun hT => ⟨rfl, hT⟩)
theorem idxI (g cap n : Nat) {j : Nat} (h : j < n) (w : World) : (Instr.indexAt 25 (.slice (some ⟨g, 0, none⟩) n cap) (.int .u8 (j : Int))).run Try.prog w = .ok (.pointer (some ⟨g, j * 3, none⟩)) w := by
  have hadd : (⟨g, 0, none⟩ : Addr).add (j * 3) = ⟨g, j * 3, none⟩ := by unfold Addr.add; split <;> simp_all
  simp [Instr.indexAt, run_underlying items_tyT, Instr.sureAddr, asIntOf, sizeOf_one item_sizeT, h, hadd]
theorem build2P (p1 q1 p2 q2 : Option Addr) (a1 b1 c1 d1 a2 b2 c2 d2 : Nat) (w : World) :
    (Instr.buildSlice 39 2 #[(0, .agg #[.slice p1 a1 b1, .slice q1 c1 d1]), (1, .agg #[.slice p2 a2 b2, .slice q2 c2 d2])]).run Try.prog w = .ok (.slice (some ⟨w.heap.size, 0, none⟩) 2 2) (w.alloc (.cells #[.slice p1 a1 b1, .slice q1 c1 d1, .slice p2 a2 b2, .slice q2 c2 d2] 38)) := by kernel_rfl
theorem own_keptT {w w' : World} {base : Nat} {e : TypeId} {size n : Nat} {v : Value} {xs : List Value} (h : w.ownsRow base e size v n xs) (hT : Tch [] w w') : w'.ownsRow base e size v n xs :=
  h.kept (row := none) ⟨hT.os, hT.tape, hT.output, hT.size, fun k hk _ => hT.block k hk (by simp)⟩ (by cases v.ownBlock <;> simp)
theorem put_get (l : List Value) (j q : Nat) (x y z : Value) (h : j + 3 ≤ l.length) : (l.take j ++ [x, y, z] ++ l.drop (j + 3))[q]? = if q = j then some x else if q = j + 1 then some y else if q = j + 2 then some z else l[q]? := by
  by_cases h1 : q < j
  · rw [List.append_assoc, List.getElem?_append_left (by rw [List.length_take]; omega), List.getElem?_take_of_lt h1, if_neg (by omega), if_neg (by omega), if_neg (by omega)]
  · by_cases h2 : q < j + 3
    · have ht : (l.take j).length = j := by rw [List.length_take]; omega
      rw [List.append_assoc, List.getElem?_append_right (by rw [ht]; omega), List.getElem?_append_left (by rw [ht]; simp; omega), ht]
      rcases (show q = j ∨ q = j + 1 ∨ q = j + 2 by omega) with rfl | rfl | rfl
      · simp
      · simp
      · simp
    · have ht : (l.take j ++ [x, y, z]).length = j + 3 := by rw [List.length_append, List.length_take]; simp; omega
      rw [List.getElem?_append_right (by rw [ht]; omega), List.getElem?_drop, ht, show j + 3 + (q - (j + 3)) = q by omega, if_neg (by omega), if_neg (by omega), if_neg (by omega)]
/-- Seventeen items in a row's first cells. -/
def Row17 (cur : Array Value) (f : Nat → Value × Value × Value) : Prop := 51 ≤ cur.size ∧ ∀ i, i < 17 → cur[i * 3]? = some (f i).1 ∧ cur[i * 3 + 1]? = some (f i).2.1 ∧ cur[i * 3 + 2]? = some (f i).2.2
theorem Row17.put {cur : Array Value} {f : Nat → Value × Value × Value} {j : Nat} {x y z : Value} (h : Row17 cur f) (hj : j < 17) :
    Row17 (cur.toList.take (j * 3) ++ [x, y, z] ++ cur.toList.drop (j * 3 + 3)).toArray (fun i => if i = j then (x, y, z) else f i) := by
  obtain ⟨hs, h⟩ := h
  have hl : j * 3 + 3 ≤ cur.toList.length := by rw [Array.length_toList]; omega
  refine ⟨?_, fun i hi => ?_⟩
  · simp only [List.size_toArray, List.length_append, List.length_take, List.length_drop, Array.length_toList, List.length_cons, List.length_nil]
    omega
  · obtain ⟨h1, h2, h3⟩ := h i hi
    simp only [List.getElem?_toArray, put_get _ _ _ _ _ _ hl, Array.getElem?_toList]
    by_cases hij : i = j
    · subst hij
      simp
    · simp only [if_neg hij, show ¬ i * 3 = j * 3 by omega, show ¬ i * 3 = j * 3 + 1 by omega, show ¬ i * 3 = j * 3 + 2 by omega, show ¬ i * 3 + 1 = j * 3 by omega, show ¬ i * 3 + 1 = j * 3 + 1 by omega, show ¬ i * 3 + 1 = j * 3 + 2 by omega, show ¬ i * 3 + 2 = j * 3 by omega, show ¬ i * 3 + 2 = j * 3 + 1 by omega, show ¬ i * 3 + 2 = j * 3 + 2 by omega, if_false]
      exact ⟨h1, h2, h3⟩
def ez : Value × Value × Value := (.bool false, .slice none 0 0, .slice none 0 0)
theorem zs_get : ∀ (n i : Nat), i < n → (zs n)[i * 3]? = some ez.1 ∧ (zs n)[i * 3 + 1]? = some ez.2.1 ∧ (zs n)[i * 3 + 2]? = some ez.2.2
  | n + 1, 0, _ => ⟨rfl, rfl, rfl⟩
  | n + 1, i + 1, h => by
    have ih := zs_get n i (by omega)
    have e : zs (n + 1) = [Value.bool false, .slice none 0 0, .slice none 0 0] ++ zs n := by unfold zs; rw [List.replicate_succ]; rfl
    rw [e, show (i + 1) * 3 = i * 3 + 3 by omega]
    refine ⟨?_, ?_, ?_⟩
    · rw [List.getElem?_append_right (by simp)]; simpa using ih.1
    · rw [List.getElem?_append_right (by simp)]; simpa using ih.2.1
    · rw [List.getElem?_append_right (by simp)]; simpa using ih.2.2
theorem Row17.start {cur : Array Value} {cap : Nat} (hcap : 17 ≤ cap) (hcs : cur.size = cap * 3) (htk : cur.toList.take (17 * 3) = zs 17) : Row17 cur (fun _ => ez) := by
  refine ⟨by omega, fun i hi => ?_⟩
  have h := zs_get 17 i hi
  rw [← htk, List.getElem?_take_of_lt (by omega), List.getElem?_take_of_lt (by omega), List.getElem?_take_of_lt (by omega)] at h
  simpa only [Array.getElem?_toList] using h
theorem leaf_itc {W : World} {bi bu a : Nat} {p : Option Addr} {c : Nat} {x : List Nat} {z : Value} (hBi : Blk W bi 27 #[.bool false, .slice (some ⟨bu, 0, none⟩) 1 1, .slice none 0 0, .bool false, .slice p x.length c, .slice none 0 0]) (hBu : Blk W bu 5 #[.int .u8 ((48 + a : Nat) : Int)]) (ha : a < 16) (hx : RdA [] W (.slice p x.length c) x) (hl : x.length < 4611686018427387904) :
    ItC [] W (dep (leaf2 a x) + 1) (.bool true) z (.slice (some ⟨bi, 0, none⟩) 2 2) (leaf2 a x) := by
  unfold leaf2
  refine itc_list (fun i => if i = 0 then (.bool false, .slice (some ⟨bu, 0, none⟩) 1 1, .slice none 0 0) else (.bool false, .slice p x.length c, .slice none 0 0)) rfl (by decide) hBi.lt (by simp) fun i hi => ?_
  match i, hi with
  | 0, _ =>
    refine ⟨hBi.cell (j := 0) rfl, hBi.cell (j := 1) rfl, hBi.cell (j := 2) rfl, ?_⟩
    show ItC [] W (dep (.str [48 + a]) + 1) _ _ _ (.str [48 + a])
    rw [dep_str]
    unfold ItC
    exact ⟨rfl, (RdB.blk (n := 1) (f := fun _ => 48 + a) hBu (fun _ _ => by omega)).rdA0, by simp⟩
  | 1, _ =>
    refine ⟨hBi.cell (j := 3) rfl, hBi.cell (j := 4) rfl, hBi.cell (j := 5) rfl, ?_⟩
    show ItC [] W (dep (.str x) + 1) _ _ _ (.str x)
    rw [dep_str]
    unfold ItC
    exact ⟨rfl, hx, hl⟩
/-- The list of seventeen. -/
def two17 (P R a b : Nat) (x y : List Nat) : List It := (List.range 16).map (fun d => if d = P then leaf2 a x else if d = R then leaf2 b y else .str []) ++ [.str []]
theorem two17_get {P R a b : Nat} {x y : List Nat} (hP : P < 16) (hR : R < 16) : ∀ i (h : i < (two17 P R a b x y).length), (two17 P R a b x y)[i] = if i = P then leaf2 a x else if i = R then leaf2 b y else .str [] := by
  intro i h
  have hl : (two17 P R a b x y).length = 17 := by simp [two17]
  rcases Nat.lt_or_ge i 16 with h16 | h16
  · simp only [two17]
    rw [List.getElem_append_left (by simpa using h16)]
    simp
  · have : i = 16 := by omega
    subst this
    rw [if_neg (by omega), if_neg (by omega)]
    simp [two17]
theorem two_itc {W : World} {g cap bi1 bi2 P R a b : Nat} {x y : List Nat} {cur : Array Value} {z : Value} (hBg : Blk W g 27 cur) (hcap : 17 ≤ cap)
    (hR : Row17 cur fun i => if i = R then (.bool true, .slice none 0 0, .slice (some ⟨bi2, 0, none⟩) 2 2) else if i = P then (.bool true, .slice none 0 0, .slice (some ⟨bi1, 0, none⟩) 2 2) else ez) (hne : P ≠ R) (hP16 : P < 16) (hR16 : R < 16)
    (h1 : ∀ z, ItC [] W (dep (leaf2 a x) + 1) (.bool true) z (.slice (some ⟨bi1, 0, none⟩) 2 2) (leaf2 a x)) (h2 : ∀ z, ItC [] W (dep (leaf2 b y) + 1) (.bool true) z (.slice (some ⟨bi2, 0, none⟩) 2 2) (leaf2 b y)) :
    ItC [] W (dep (.lst (two17 P R a b x y)) + 1) (.bool true) z (.slice (some ⟨g, 0, none⟩) 17 cap) (.lst (two17 P R a b x y)) := by
  have hl : (two17 P R a b x y).length = 17 := by simp [two17]
  rw [dep_lst]
  unfold ItC
  refine ⟨rfl, some ⟨g, 0, none⟩, cap, by rw [hl], ⟨by rw [hl]; exact hcap, by rw [hl]; decide⟩, fun _ => ⟨g, 0, rfl, hBg.lt, by simp, fun i hi => ?_⟩⟩
  have hi17 : i < 17 := by omega
  obtain ⟨g1, g2, g3⟩ := hR.2 i hi17
  have hm := deps_mem (l := two17 P R a b x y) (x := (two17 P R a b x y)[i]'hi) (List.getElem_mem hi)
  refine ⟨_, _, _, (by rw [Nat.zero_add]; exact hBg.cell g1), (by rw [Nat.zero_add]; exact hBg.cell g2), (by rw [Nat.zero_add]; exact hBg.cell g3), ?_⟩
  have key : ItC [] W (dep ((two17 P R a b x y)[i]'hi) + 1) (if i = R then ((.bool true, .slice none 0 0, .slice (some ⟨bi2, 0, none⟩) 2 2) : Value × Value × Value) else if i = P then (.bool true, .slice none 0 0, .slice (some ⟨bi1, 0, none⟩) 2 2) else ez).1 (if i = R then ((.bool true, .slice none 0 0, .slice (some ⟨bi2, 0, none⟩) 2 2) : Value × Value × Value) else if i = P then (.bool true, .slice none 0 0, .slice (some ⟨bi1, 0, none⟩) 2 2) else ez).2.1 (if i = R then ((.bool true, .slice none 0 0, .slice (some ⟨bi2, 0, none⟩) 2 2) : Value × Value × Value) else if i = P then (.bool true, .slice none 0 0, .slice (some ⟨bi1, 0, none⟩) 2 2) else ez).2.2 ((two17 P R a b x y)[i]'hi) := by
    rw [two17_get hP16 hR16 i hi]
    by_cases hiP : i = P
    · subst hiP
      simp only [if_true, if_neg hne]
      exact h1 _
    · by_cases hiR : i = R
      · subst hiR
        simp only [if_neg hiP, if_true]
        exact h2 _
      · simp only [if_neg hiP, if_neg hiR]
        show ItC [] W (dep (.str []) + 1) (.bool false) (.slice none 0 0) (.slice none 0 0) (.str [])
        rw [dep_str]
        unfold ItC
        exact ⟨rfl, ⟨none, 0, rfl, Nat.le_refl _, by simp, fun h => absurd rfl h⟩, by simp⟩
  exact key.up (by omega)
theorem two_dep (P R a b : Nat) (x y : List Nat) : dep (.lst (two17 P R a b x y)) ≤ 32 := by
  rw [dep_lst]
  have := deps_le_of (l := two17 P R a b x y) (m := 5) (by
    intro t ht
    unfold two17 at ht
    rcases List.mem_append.1 ht with ht | ht
    · obtain ⟨d, _, rfl⟩ := List.mem_map.1 ht
      split
      · simp [leaf2, dep, deps]
      · split
        · simp [leaf2, dep, deps]
        · rw [dep_str]; omega
    · rw [List.mem_singleton] at ht; subst ht; rw [dep_str]; omega)
  omega
theorem leaf2_len {a : Nat} {x : List Nat} (hx : x.length ≤ 20) : (enc (leaf2 a x)).length ≤ 40 := by
  have h1 := encS_leT (l := [48 + a]) (by simp)
  have h2 := encS_leT (l := x) (by omega)
  have h3 : (encs [.str [48 + a], .str x]).length ≤ 31 := by
    simp only [encs, enc_str, List.length_append, List.length_nil]
    simp only [List.length_cons, List.length_nil] at h1
    omega
  have := enc_lst_leT (l := [.str [48 + a], .str x]) (by omega)
  unfold leaf2
  omega
theorem two_len {P R a b : Nat} {x y : List Nat} (hx : x.length ≤ 20) (hy : y.length ≤ 20) : (enc (.lst (two17 P R a b x y))).length ≤ 1000 := by
  have h0 : (enc (.str [])).length ≤ 40 := by rw [enc_empty]; simp
  have h1 := encs_le_of (l := two17 P R a b x y) (m := 40) (by
    intro t ht
    unfold two17 at ht
    rcases List.mem_append.1 ht with ht | ht
    · obtain ⟨d, _, rfl⟩ := List.mem_map.1 ht
      split
      · exact leaf2_len hx
      · split
        · exact leaf2_len hy
        · exact h0
    · rw [List.mem_singleton] at ht; subst ht; exact h0)
  have hl : (two17 P R a b x y).length = 17 := by simp [two17]
  rw [hl] at h1
  have := enc_lst_leT (l := two17 P R a b x y) (by omega)
  omega
theorem two_may {A B : Nat} {x y : List Nat} (hab : A / 16 ≠ B / 16) (hx1 : 1 ≤ x.length) (hx2 : x.length ≤ 20) (hy1 : 1 ≤ y.length) (hy2 : y.length ≤ 20) : mayE [([A], x), ([B], y)] = 0 := by
  have hAB : A ≠ B := fun e => hab (by rw [e])
  have hx : x.isEmpty = false := by cases x with | nil => simp at hx1 | cons => rfl
  have hy : y.isEmpty = false := by cases y with | nil => simp at hy1 | cons => rfl
  have h1 : ¬ (100000 < [([A], x), ([B], y)].length ∨ ([([A], x), ([B], y)] : List En).any longP = true) := by
    simp [longP]
    omega
  have h2 : ¬ (Empty' [([A], x), ([B], y)] = true ∨ ¬ Apart [([A], x), ([B], y)]) := by
    simp [Empty', Apart, hx, hy, hAB]
  unfold mayE
  rw [if_neg h1, if_neg h2]
theorem two_rootW {A B : Nat} {x y : List Nat} (hab : A / 16 ≠ B / 16) (hx1 : 1 ≤ x.length) (hx2 : x.length ≤ 20) (hy1 : 1 ≤ y.length) (hy2 : y.length ≤ 20) : rootW [([A], x), ([B], y)] = hashN (enc (.lst (two17 (A / 16) (B / 16) (A % 16) (B % 16) x y))) := by
  unfold rootW
  rw [if_pos (two_may hab hx1 hx2 hy1 hy2)]
  have he : entries [([A], x), ([B], y)] = [([A / 16, A % 16], x), ([B / 16, B % 16], y)] := rfl
  rw [he, two_list HL 198 (A / 16) (A % 16) (B / 16) (B % 16) x y hab (by omega) (by omega) hx2 hy2]
  rfl
theorem two_pairs {W : World} {bp k1 k2 A B : Nat} {p1 p2 : Option Addr} {c1 c2 : Nat} {x y : List Nat} (hB : Blk W bp 38 #[.slice (some ⟨k1, 0, none⟩) 1 1, .slice p1 x.length c1, .slice (some ⟨k2, 0, none⟩) 1 1, .slice p2 y.length c2]) (h1 : Blk W k1 5 #[.int .u8 (A : Int)]) (h2 : Blk W k2 5 #[.int .u8 (B : Int)]) (hA : A < 256) (hBB : B < 256)
    (hx : RdB W (.slice p1 x.length c1) x) (hy : RdB W (.slice p2 y.length c2) y) : PairsAt W (.slice (some ⟨bp, 0, none⟩) 2 2) [([A], x), ([B], y)] :=
  ⟨_, _, rfl, Nat.le_refl _, fun _ => ⟨bp, 0, rfl, hB.lt, fun i hi => by
    match i, hi with
    | 0, _ => exact ⟨_, _, hB.cell (j := 0) rfl, hB.cell (j := 1) rfl, RdB.blk (n := 1) (f := fun _ => A) h1 (fun _ _ => hA), hx⟩
    | 1, _ => exact ⟨_, _, hB.cell (j := 2) rfl, hB.cell (j := 3) rfl, RdB.blk (n := 1) (f := fun _ => B) h2 (fun _ _ => hBB), hy⟩⟩⟩
set_option maxHeartbeats 8000000 in
theorem two_walk (A B : Nat) (x y : List Nat) (vx vy : Value) (w : World) (hA : A < 256) (hB : B < 256) (hx : RdA [] w vx x) (hy : RdA [] w vy y) (hab : A / 16 ≠ B / 16) (hx1 : 1 ≤ x.length) (hx2 : x.length ≤ 20) (hy1 : 1 ≤ y.length) (hy2 : y.length ≤ 20) :
    Calls Try.prog 3 #[.int .u8 (A : Int), .int .u8 (B : Int), vx, vy] w fun e w' => e = .returned (.bool true) ∧ Tch [] w w' := by
  obtain ⟨p1, c1, rfl⟩ := hx.rdB.shape'
  obtain ⟨p2, c2, rfl⟩ := hy.rdB.shape'
  have eA := div16 A
  have eB := div16 B
  have eA2 := tand15' hA
  have eB2 := tand15' hB
  have eA3 := or48' (n := A % 16) (by omega)
  have eB3 := or48' (n := B % 16) (by omega)
  have HXY := Lib.hid (And.intro hx hy)
  clear hx hy
  have HLN := Lib.hid (And.intro (And.intro hx1 hx2) (And.intro hy1 hy2))
  have HAB := Lib.hid (And.intro hA (And.intro hB hab))
  obtain ⟨n, hn⟩ : ∃ n, n = x.length := ⟨_, rfl⟩
  obtain ⟨m, hm⟩ : ∃ m, m = y.length := ⟨_, rfl⟩
  rw [← hn] at hx1 hx2 ⊢
  rw [← hm] at hy1 hy2 ⊢
  have HNM := Lib.hid (And.intro hn hm)
  clear hn hm
  obtain ⟨P, hP⟩ : ∃ P, P = A / 16 := ⟨_, rfl⟩
  obtain ⟨R, hR⟩ : ∃ R, R = B / 16 := ⟨_, rfl⟩
  rw [← hP] at hab eA
  rw [← hR] at hab eB
  have hP16 : P < 16 := by omega
  have hR16 : R < 16 := by omega
  have HPR := Lib.hid (And.intro (And.intro hP hR) (And.intro hP16 hR16))
  obtain ⟨a2, ha2⟩ : ∃ a2, a2 = A % 16 := ⟨_, rfl⟩
  obtain ⟨b2, hb2⟩ : ∃ b2, b2 = B % 16 := ⟨_, rfl⟩
  rw [← ha2] at eA2 eA3
  rw [← hb2] at eB2 eB3
  have H22 := Lib.hid (And.intro ha2 hb2)
  have e1 : ((P : Int) == (R : Int)) = false := beq_eq_false_iff_ne.2 (by omega)
  have f1 : ¬ (P : Int) = (R : Int) := by omega
  have e2 : ¬ (n : Int) < 1 := by omega
  have e3 : ¬ (m : Int) < 1 := by omega
  have e4 : ¬ (20 : Int) < (n : Int) := by omega
  have e5 : ¬ (20 : Int) < (m : Int) := by omega
  clear hP hR hab hx1 hx2 hy1 hy2 hA hB hP16 hR16 ha2 hb2
  go_enter Try.func3, Try.ntmps3
  go_wp2_with (go_at_call 5; refine (alive6_any _).mono ?_; rintro e w1 ⟨rfl, hT⟩)
  clear e1 f1 e2 e3 e4 e5
  have HT := Lib.hid hT
  clear hT
  go_loopw [10, 11] (fun v i wr => ∃ k : Nat, i = .int .i64 (k : Int) ∧ k ≤ 17 ∧ Tch [] w wr ∧ Hid (wr.ownsRow w.heap.size 27 3 v k (zs k))) (fun _ i _ => 17 - (intOf i).toNat)
  case atStart => exact ⟨0, rfl, by decide, HT.out, Lib.hid ⟨rfl, .inl ⟨rfl, rfl⟩⟩⟩
  case round =>
    obtain ⟨k, rfl, hk, hTr, HO⟩ := hrel
    by_cases hlt : k < 17
    · have g1 : (k : Int) < 17 := by omega
      have g0 : (0 : Int) ≤ (k : Int) := by omega
      go_wp2_with (first
        | (go_at_call 6; refine (rBytes_ex none 0 0 _).mono ?_; rintro e w2 ⟨rfl, hT2⟩; have HO2 := Lib.hid (own_keptT HO.out hT2); replace hTr := hTr.trans hT2; clear hT2)
        | (refine st_buildC #[(0, .agg #[.bool false, .slice none 0 0, .slice none 0 0])] rfl rfl (by simp only [List.map_toArray, List.map_cons, List.map_nil]; rfl) buildI1 ?_; intro w3 hw3)
        | (subst hw3; refine st_appZ (n := k) rfl _ _ rfl rfl rfl HO2.out hTr (by omega) ?_; intro v' w4 hown' hT4; rw [zs_succ] at hown'; have HO4 := Lib.hid hown'; clear hown'))
      go_roundw
      case rel => exact ⟨k + 1, by go_num, by omega, hT4, HO4⟩
      case measure => simp [intOf]; omega
    · obtain rfl : k = 17 := by omega
      obtain ⟨hlen, hrow⟩ := HO.out
      obtain ⟨g, cap, cur, rfl, hgw, hBg, hcap, _, hcs, htk⟩ := hrow.resolve_left (fun h => by cases h.2)
      have hS : St [] w _ [(g, 27, cur)] := (St.start w).callNew hTr hBg hgw
      have HR0 := Lib.hid (Row17.start hcap hcs htk)
      have HCP := Lib.hid hcap
      clear hlen hrow hBg hcap hcs htk HO hTr
      have ki1 := idxI g cap 17 (j := P) (by have := HPR.out.2; omega)
      have ki2 := idxI g cap 17 (j := R) (by have := HPR.out.2; omega)
      have HRB := Lib.hid (show P * 3 + 3 ≤ cur.size by have := HR0.out.1; have := HPR.out.2; omega)
      go_upto_region 10 with (first
        | (refine st_buildVT #[(0, .int .u8 ((48 + a2 : Nat) : Int))] hS rfl rfl (by simp only [List.map_toArray, List.map_cons, List.map_nil]; rfl) (buildU1 _) ?_; clear hS; intro w5a bua hS hT5; clear hT5)
        | (go_at_call 6; refine (rBytes_ex _ _ _ _).mono ?_; rintro e w6a ⟨rfl, hT6⟩; replace hS := hS.call hT6; clear hT6)
        | (refine st_buildVT #[(0, .agg #[.bool false, .slice (some ⟨bua, 0, none⟩) 1 1, .slice none 0 0]), (1, .agg #[.bool false, .slice p1 n c1, .slice none 0 0])] hS rfl rfl (by simp only [List.map_toArray, List.map_cons, List.map_nil]; rfl) (buildI2 _ _ _ _ _ _ _ _ _ _ _ _ _ _) ?_; clear hS; intro w7a bia hS hT7; clear hT7)
        | (go_at_call 7; refine (rList_ex _ _ _ _).mono ?_; rintro e w8a ⟨rfl, hT8⟩; replace hS := hS.call hT8; clear hT8)
        | (refine arm_store3 (j := P * 3) (hS.get (.tail (.tail .head))) HRB.out (item3_one _ _ _ _ _ _ _) rfl _ _ rfl rfl rfl ?_; intro w9a hO hB9; replace hS := hS.upd (.tail (.tail .head)) hO hB9; clear hO hB9))
      have HR1 := Lib.hid (HR0.out.put (x := .bool true) (y := .slice none 0 0) (z := .slice (some ⟨bia, 0, none⟩) 2 2) (show P < 17 by have := HPR.out.2; omega))
      obtain ⟨cur1, hcur1⟩ : ∃ cur1, cur1 = (cur.toList.take (P * 3) ++ [Value.bool true, .slice none 0 0, .slice (some ⟨bia, 0, none⟩) 2 2] ++ cur.toList.drop (P * 3 + 3)).toArray := ⟨_, rfl⟩
      rw [← hcur1] at HR1 hS
      clear hcur1 HRB HR0
      have HRB := Lib.hid (show R * 3 + 3 ≤ cur1.size by have := HR1.out.1; have := HPR.out.2; omega)
      go_upto_region 11 with (first
        | (refine st_buildVT #[(0, .int .u8 ((48 + b2 : Nat) : Int))] hS rfl rfl (by simp only [List.map_toArray, List.map_cons, List.map_nil]; rfl) (buildU1 _) ?_; clear hS; intro w5b bub hS hT5; clear hT5)
        | (go_at_call 6; refine (rBytes_ex _ _ _ _).mono ?_; rintro e w6b ⟨rfl, hT6⟩; replace hS := hS.call hT6; clear hT6)
        | (refine st_buildVT #[(0, .agg #[.bool false, .slice (some ⟨bub, 0, none⟩) 1 1, .slice none 0 0]), (1, .agg #[.bool false, .slice p2 m c2, .slice none 0 0])] hS rfl rfl (by simp only [List.map_toArray, List.map_cons, List.map_nil]; rfl) (buildI2 _ _ _ _ _ _ _ _ _ _ _ _ _ _) ?_; clear hS; intro w7b bib hS hT7; clear hT7)
        | (go_at_call 7; refine (rList_ex _ _ _ _).mono ?_; rintro e w8b ⟨rfl, hT8⟩; replace hS := hS.call hT8; clear hT8)
        | (refine arm_store3 (j := R * 3) (hS.get (.tail (.tail (.tail (.tail .head))))) HRB.out (item3_one _ _ _ _ _ _ _) rfl _ _ rfl rfl rfl ?_; intro w9b hO hB9; replace hS := hS.upd (.tail (.tail (.tail (.tail .head)))) hO hB9; clear hO hB9))
      have HR2 := Lib.hid (HR1.out.put (x := .bool true) (y := .slice none 0 0) (z := .slice (some ⟨bib, 0, none⟩) 2 2) (show R < 17 by have := HPR.out.2; omega))
      obtain ⟨cur2, hcur2⟩ : ∃ cur2, cur2 = (cur1.toList.take (R * 3) ++ [Value.bool true, .slice none 0 0, .slice (some ⟨bib, 0, none⟩) 2 2] ++ cur1.toList.drop (R * 3 + 3)).toArray := ⟨_, rfl⟩
      rw [← hcur2] at HR2 hS
      clear hcur2 HRB HR1
      have HIT := Lib.hid (fun (W : World) (hT : Tch [] w9b W) => show ItC [] W (dep (.lst (two17 P R a2 b2 x y)) + 1) (.bool true) (.slice none 0 0) (.slice (some ⟨g, 0, none⟩) 17 cap) (.lst (two17 P R a2 b2 x y)) from by
        have hW := hS.frame.trans hT
        have hB1 := hT.blk (hS.get (.tail (.tail .head))) (by simp)
        have hB2 := hT.blk (hS.get .head) (by simp)
        have hU1 := hT.blk (hS.get (.tail (.tail (.tail .head)))) (by simp)
        have hU2 := hT.blk (hS.get (.tail .head)) (by simp)
        have hnx := HNM.out.1
        have hmy := HNM.out.2
        rw [hnx] at hB1
        rw [hmy] at hB2
        have hne : P ≠ R := by rw [HPR.out.1.1, HPR.out.1.2]; exact HAB.out.2.2
        have ha16 : a2 < 16 := by rw [H22.out.1]; omega
        have hb16 : b2 < 16 := by rw [H22.out.2]; omega
        exact two_itc (hT.blk (hS.get (.tail (.tail (.tail (.tail .head))))) (by simp)) HCP.out HR2.out hne HPR.out.2.1 HPR.out.2.2
          (fun z => leaf_itc hB1 hU1 ha16 (HXY.out.1.tch hW) (by have := HLN.out; omega)) (fun z => leaf_itc hB2 hU2 hb16 (HXY.out.2.tch hW) (by have := HLN.out; omega)))
      have HDL := Lib.hid (And.intro (two_dep P R a2 b2 x y) (show (enc (.lst (two17 P R a2 b2 x y))).length ≤ 16777216 by have := two_len (P := P) (R := R) (a := a2) (b := b2) HLN.out.1.2 HLN.out.2.2; omega))
      have HDK := Lib.hid (show (enc (.lst (two17 P R a2 b2 x y))).length ≤ 1000000 by have := two_len (P := P) (R := R) (a := a2) (b := b2) HLN.out.1.2 HLN.out.2.2; omega)
      have HRT := Lib.hid (fun (W : World) (v : Value) (hv : PairsAt W v [([A], x), ([B], y)]) => show Calls Try.prog 9 #[v] W fun e w' => e = .returned (.tuple #[.agg (wf (hashN (enc (.lst (two17 P R a2 b2 x y))))), .int .i64 0]) ∧ Tch [] W w' from by
        have h := Root_any v [([A], x), ([B], y)] W hv (by simp) (fun _ p hp => by
          have := HLN.out
          simp only [List.mem_cons, List.mem_nil_iff, or_false] at hp
          rcases hp with rfl | rfl
          · show x.length ≤ _; omega
          · show y.length ≤ _; omega)
        rw [two_rootW HAB.out.2.2 HLN.out.1.1 HLN.out.1.2 HLN.out.2.1 HLN.out.2.2, two_may HAB.out.2.2 HLN.out.1.1 HLN.out.1.2 HLN.out.2.1 HLN.out.2.2, ← HPR.out.1.1, ← HPR.out.1.2, ← H22.out.1, ← H22.out.2] at h
        exact h)
      have HPK := Lib.hid (fun (W : World) (hT : Tch [] w9b W) => refPack_yes _ _ _ _ _ W (HIT.out W hT) HDL.out)
      generalize enc (.lst (two17 P R a2 b2 x y)) = L at HRT HDK HPK
      have HPB := Lib.hid (fun (bp : Nat) (W : World) (bk1 bk2 : Nat) (hB : Blk W bp 38 #[.slice (some ⟨bk1, 0, none⟩) 1 1, .slice p1 n c1, .slice (some ⟨bk2, 0, none⟩) 1 1, .slice p2 m c2]) => show Blk W bp 38 #[.slice (some ⟨bk1, 0, none⟩) 1 1, .slice p1 x.length c1, .slice (some ⟨bk2, 0, none⟩) 1 1, .slice p2 y.length c2] from by rw [← HNM.out.1, ← HNM.out.2]; exact hB)
      have HS0 := Lib.hid hS.frame
      go_upto_region 12 with (first
        | (go_at_call 7; refine (rList_ex _ _ _ _).mono ?_; rintro e wa ⟨rfl, hTa⟩; have HTA := Lib.hid hTa; clear hTa)
        | (go_at_call 8; refine (HPK.out _ HTA.out).mono ?_; rintro e wb ⟨pv, rfl, hTb, hpv⟩; have HPV := Lib.hid (And.intro (HS0.out.trans (HTA.out.trans hTb)) hpv); clear hTb hpv))
      obtain ⟨pp, cp, rfl⟩ := HPV.out.2.rdB.shape'
      have HPL := Lib.hid HPV.out.2
      have hS2 : St [] w wb [] := ⟨HPV.out.1, fun e he => (by cases he), List.Pairwise.nil⟩
      clear hS
      have HW9 := Lib.hid (fun (W : World) (hT : Tch [] wb W) => And.intro (HXY.out.1.tch (HPV.out.1.trans hT)).rdB (HXY.out.2.tch (HPV.out.1.trans hT)).rdB)
      have kb := build_pair
      have hS := hS2
      clear hS2
      go_upto_region 13 with (first
        | (refine st_buildVT #[(0, .int .u8 (A : Int))] hS rfl rfl (by simp only [List.map_toArray, List.map_cons, List.map_nil]; rfl) (buildU1 _) ?_; clear hS; intro wc bk1 hS hTc; have HTC := Lib.hid hTc; clear hTc)
        | (refine st_buildVT #[(0, .int .u8 (B : Int))] hS rfl rfl (by simp only [List.map_toArray, List.map_cons, List.map_nil]; rfl) (buildU1 _) ?_; clear hS; intro wd bk2 hS hTd; have HTD := Lib.hid (HTC.out.trans hTd); clear hTd)
        | (refine st_buildVT #[(0, .agg #[.slice (some ⟨bk1, 0, none⟩) 1 1, .slice p1 n c1]), (1, .agg #[.slice (some ⟨bk2, 0, none⟩) 1 1, .slice p2 m c2])] hS rfl rfl (by simp only [List.map_toArray, List.map_cons, List.map_nil]; rfl) (build2P _ _ _ _ _ _ _ _ _ _ _ _) ?_; clear hS; intro we bp hS hTe; have HTE := Lib.hid (HTD.out.trans hTe); clear hTe)
        | (go_at_call 9; refine (HRT.out _ _ (two_pairs (HPB.out bp we bk1 bk2 (hS.get .head)) (hS.get (.tail (.tail .head))) (hS.get (.tail .head)) HAB.out.1 HAB.out.2.1 (HW9.out _ HTE.out).1 (HW9.out _ HTE.out).2)).mono ?_; rintro e wf1 ⟨rfl, hTf⟩; have HTF := Lib.hid (HTE.out.trans hTf); replace hS := hS.call hTf; clear hTf)
        | (refine st_newT hS rfl 33 rfl word_zero ?_; clear hS; intro wg b14 hS hTg hbg)
        | (refine st_storeO (b := b14) (c' := wf (hashN L)) hS rfl 33 _ _ rfl rfl rfl .head word_size (wf_size _) (wf_size _) (wf_one _) ?_; clear hS; intro wh hS hO; have HTH := Lib.hid (HTF.out.trans (hTg.only hO (.inl hbg))); clear hO hTg hbg))
      have HWB := Lib.hid (fun (w' : World) (h : Tch [] wh w') => h.blk (hS.get .head) (by simp))
      have HKK := Lib.hid (fun (w' : World) (h : Tch [] wh w') => keccak_any _ L w' HDK.out (HPL.out.tch (HTH.out.trans h)))
      have HF := Lib.hid hS.frame
      clear hS kb
      refine k_region (C := fun w' => Tch [] wh w') (by kernel_rfl) (by kernel_rfl) ((Tch.refl _ _).drew) ?_
      refine k_intm rfl _ rfl rfl ?_; try simp only [Act.put, List.setIfInBounds_toArray, List.set_cons_zero, List.set_cons_succ]
      refine k_callC1 rfl rfl rfl Try.call10 (fun w' h => (num6_any _ w').mono fun e w'' h2 => ⟨h2.1, h.trans h2.2⟩) ?_; try simp only [Act.put, List.setIfInBounds_toArray, List.set_cons_zero, List.set_cons_succ]
      refine k_ints rfl _ _ _ rfl rfl rfl rfl ?_; try simp only [Act.put, List.setIfInBounds_toArray, List.set_cons_zero, List.set_cons_succ]
      refine k_boolm rfl _ rfl rfl ?_; try simp only [Act.put, List.setIfInBounds_toArray, List.set_cons_zero, List.set_cons_succ]
      refine k_loadW (b := b14) rfl _ rfl rfl (fun w' h => HWB.out w' h) (wf_size _) ?_; try simp only [Act.put, List.setIfInBounds_toArray, List.set_cons_zero, List.set_cons_succ]
      refine k_slice rfl _ rfl rfl ?_; try simp only [Act.put, List.setIfInBounds_toArray, List.set_cons_zero, List.set_cons_succ]
      refine k_callC1 (v := .agg (wf (hashN L))) rfl rfl rfl Try.call11 (fun w' h => (HKK.out w' h).mono fun e w'' h2 => ⟨h2.1, h.trans h2.2⟩) ?_; try simp only [Act.put, List.setIfInBounds_toArray, List.set_cons_zero, List.set_cons_succ]
      refine k_hash (l := L) rfl _ _ _ rfl rfl rfl ?_; try simp only [Act.put, List.setIfInBounds_toArray, List.set_cons_zero, List.set_cons_succ]
      refine k_pickT rfl _ _ _ rfl rfl rfl ?_; try simp only [Act.put, List.setIfInBounds_toArray, List.set_cons_zero, List.set_cons_succ]
      refine k_boola rfl _ rfl rfl ?_; try simp only [Act.put, List.setIfInBounds_toArray, List.set_cons_zero, List.set_cons_succ]
      refine k_end ?_
      intro wz hTz
      go_wp2
      go_ret
      exact ⟨rfl, HF.out.trans hTz⟩
end Go.Proofs.Ytfdihphhmhgejaa
