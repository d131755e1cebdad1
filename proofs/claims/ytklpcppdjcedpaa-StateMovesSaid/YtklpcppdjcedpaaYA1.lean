/- Maps with words and addresses as keys; sets of them; how many keys there are. -/
import Derived.Test.YtklpcppdjcedpaaIH
import Derived.Maps.OwnSet
import Derived.Maps.Views
import Derived.WideKeyArr
namespace Go.Proofs.Ytklpcppdjcedpaa
open Go.RowKit Go.WideMaps
set_option linter.unusedVariables false
set_option linter.unusedSimpArgs false
set_option maxRecDepth 100000

theorem wordArr : ArrKey Try.prog 25 5 32 := ⟨by kernel_rfl, by kernel_rfl, by kernel_rfl, by kernel_rfl⟩
theorem addrArr : ArrKey Try.prog 23 5 20 := ⟨by kernel_rfl, by kernel_rfl, by kernel_rfl, by kernel_rfl⟩
theorem wordKeyed : Maps.Keyed Try.prog 25 := Maps.Keyed.of_law wordArr.law
theorem addrKeyed : Maps.Keyed Try.prog 23 := Maps.Keyed.of_law addrArr.law
theorem byte_tyY : Try.prog.underlying 5 = some (.int .u8) := by kernel_rfl
theorem types_pos : ∃ m, Try.prog.types.size = m + 1 := ⟨Try.prog.types.size - 1, by kernel_rfl⟩
/-- What an array of these bytes is as a key. -/
def keyL (l : List Nat) : Lit := .string (keyBytes (l.map fun b : Nat => .int .u8 (b : Int)))
theorem keyL_is (l : List Nat) : WideAt.IsKeyLit (keyL l) := by unfold keyL; trivial
/-- A list as an array of n. -/
def arrV (n : Nat) (l : List Nat) : Array Value := bc n fun i => l.getD i 0
theorem arrV_size (n : Nat) (l : List Nat) : (arrV n l).size = n := bc_size _ _
theorem arrV_list {n : Nat} {l : List Nat} (hl : l.length = n) : (arrV n l).toList = l.map fun b : Nat => Value.int .u8 (b : Int) := by
  apply List.ext_getElem?
  intro i
  by_cases hi : i < n
  · rw [Array.getElem?_toList, arrV, bc_get hi]
    have hi' : i < l.length := by omega
    simp [hi', List.getD_eq_getElem?_getD]
  · rw [Array.getElem?_toList, arrV, bc_none (by omega)]
    rw [List.getElem?_eq_none]; simp; omega
theorem arrV_inj {n : Nat} {l m : List Nat} (hl : l.length = n) (hm : m.length = n) (h : arrV n l = arrV n m) : l = m := by
  have e : (arrV n l).toList = (arrV n m).toList := by rw [h]
  rw [arrV_list hl, arrV_list hm] at e
  have inj : ∀ a b : Nat, Value.int .u8 (a : Int) = Value.int .u8 (b : Int) → a = b := fun a b h => by
    have := Value.int.inj h; omega
  have hm : ∀ (l m : List Nat), (l.map fun b : Nat => Value.int .u8 (b : Int)) = (m.map fun b : Nat => Value.int .u8 (b : Int)) → l = m := by
    intro l
    induction l with
    | nil => intro m h; cases m with | nil => rfl | cons a m => simp at h
    | cons a l ih =>
      intro m h
      cases m with
      | nil => simp at h
      | cons b m =>
        rw [List.map_cons, List.map_cons] at h
        obtain ⟨h1, h2⟩ := List.cons.inj h
        rw [inj _ _ h1, ih m h2]
  exact hm _ _ e
theorem wf_byteY {b : Nat} (h : b < 256) : (Lit.int .u8 (b : Int)).wf = true := by
  have e1 : IntKind.u8.min = 0 := by rfl
  have e2 : IntKind.u8.max = 255 := by rfl
  simp only [Lit.wf, e1, e2, Bool.and_eq_true, decide_eq_true_eq]
  omega
theorem keyLits_arr {n k m : Nat} (A : ArrKey Try.prog k 5 n) {l : List Nat} (hl : l.length = n) (hb : ∀ b ∈ l, b < 256) : Try.prog.keyLits (m + 2) k (arrV n l).toList = some (l.map fun b : Nat => .int .u8 (b : Int)) := by
  unfold Program.keyLits
  simp only [A.hu]
  rw [if_pos (by rw [A.size, Array.length_toList, arrV_size]), A.one]
  have h : ∀ (L : List Nat), (∀ i ∈ L, i < n) → L.mapM (fun i => Try.prog.keyLits (m + 1) 5 (((arrV n l).toList.drop (i * 1)).take 1)) = some (L.map fun i : Nat => [Lit.int .u8 ((l.getD i 0 : Nat) : Int)]) := by
    intro L
    induction L with
    | nil => intro _; rfl
    | cons i L ih =>
      intro hL
      have hi := hL i List.mem_cons_self
      have hv : ((arrV n l).toList.drop (i * 1)).take 1 = [Value.int .u8 ((l.getD i 0 : Nat) : Int)] := by
        rw [arrV_list hl, Nat.mul_one]
        have hi' : i < l.length := by omega
        rw [List.drop_eq_getElem_cons (by simpa using hi')]
        simp [List.getD_eq_getElem?_getD, hi']
      have hw := wf_byteY (hb (l.getD i 0) (by
        have hi' : i < l.length := by omega
        rw [List.getD_eq_getElem?_getD, List.getElem?_eq_getElem hi']
        exact List.getElem_mem hi'))
      rw [List.mapM_cons, ih (fun j hj => hL j (List.mem_cons_of_mem _ hj)), hv]
      simp only [List.getD_eq_getElem?_getD] at hw
      simp [Program.keyLits, byte_tyY, hw]
  rw [h _ (fun i hi => List.mem_range.1 hi)]
  have hfl : ∀ (L : List Nat), (L.map fun i : Nat => [Lit.int .u8 ((l.getD i 0 : Nat) : Int)]).flatten = L.map fun i : Nat => Lit.int .u8 ((l.getD i 0 : Nat) : Int) := fun L => by
    induction L with
    | nil => rfl
    | cons a r ih => simp only [List.map_cons, List.flatten_cons, ih, List.cons_append, List.nil_append]
  simp only [Option.map_some, hfl]
  congr 1
  apply List.ext_getElem?
  intro i
  by_cases hi : i < n
  · have hi' : i < l.length := by omega
    simp [hi, hi', List.getD_eq_getElem?_getD]
  · rw [List.getElem?_eq_none (by simp; omega), List.getElem?_eq_none (by simp; omega)]
theorem keyOf_arr {n k : Nat} (A : ArrKey Try.prog k 5 n) {l : List Nat} (hl : l.length = n) (hb : ∀ b ∈ l, b < 256) : keyOf Try.prog k (.agg (arrV n l)) = some (keyL l) := by
  obtain ⟨m0, hm0⟩ := types_pos
  have hkt := A.keyType ⟨m0, hm0⟩
  unfold keyOf
  simp only [A.hu]
  rw [if_pos (by simp [hkt, Value.formed, A.hu, A.size, arrV_size])]
  have h2 : ∃ m1, Try.prog.types.size + 1 = m1 + 2 := ⟨m0, by omega⟩
  obtain ⟨m1, hm1⟩ := h2
  rw [hm1, show (Value.agg (arrV n l)).cells.toList = (arrV n l).toList from rfl, keyLits_arr A hl hb]
  rfl
theorem keyL_inj {n k : Nat} (A : ArrKey Try.prog k 5 n) {l m : List Nat} (hl : l.length = n) (hb : ∀ b ∈ l, b < 256) (hm : m.length = n) (hc : ∀ b ∈ m, b < 256) (h : keyL l = keyL m) : l = m := by
  have h1 := keyOf_arr A hl hb
  have h2 := keyOf_arr A hm hc
  rw [← h] at h2
  have e := A.law.inj h1 h2
  exact arrV_inj hl hm (Value.agg.inj e)
/-- Is a key there twice? -/
def dupK : List (List Nat) → Bool
  | [] => false
  | k :: r => r.contains k || dupK r
theorem dupK_snoc (l : List (List Nat)) (k : List Nat) : dupK (l ++ [k]) = (dupK l || l.contains k) := by
  induction l with
  | nil => simp [dupK]
  | cons a l ih =>
    simp only [List.cons_append, dupK, ih, List.contains_append, List.contains_cons, List.contains_nil, Bool.or_false]
    cases h1 : l.contains a <;> cases h2 : dupK l <;> cases h3 : l.contains k <;> cases h4 : (a == k) <;> cases h5 : (k == a) <;> simp_all
/-- The set of these keys. -/
def setK (l : List (List Nat)) : DataW Unit := Maps.setOf (.agg []) (l.map keyL)
theorem setK_snoc (l : List (List Nat)) (k : List Nat) : setK (l ++ [k]) = (setK l).put (keyL k) (.agg []) := by
  unfold setK
  rw [List.map_append]
  exact Maps.setOf_snoc _ _ _
theorem setK_keys (l : List (List Nat)) : ∀ x ∈ l.map keyL, WideAt.IsKeyLit x := fun x hx => by
  obtain ⟨y, _, rfl⟩ := List.mem_map.1 hx
  exact keyL_is y
theorem setK_has {n k : Nat} (A : ArrKey Try.prog k 5 n) (l : List (List Nat)) (hl : ∀ y ∈ l, y.length = n ∧ ∀ b ∈ y, b < 256) (x : List Nat) (hx : x.length = n ∧ ∀ b ∈ x, b < 256) : Maps.has (setK l) (keyL x) = l.contains x := by
  unfold setK
  rw [Maps.has_setOf _ _ _ (setK_keys l)]
  rw [Bool.eq_iff_iff]
  simp only [List.any_eq_true, List.contains_iff_mem, List.mem_map]
  constructor
  · rintro ⟨z, ⟨y, hy, rfl⟩, hs⟩
    have he : keyL y = keyL x := Classical.byContradiction fun hne => by rw [Maps.sameKey_ne hne] at hs; cases hs
    rw [← keyL_inj A (hl y hy).1 (hl y hy).2 hx.1 hx.2 he]
    exact hy
  · intro hm
    refine ⟨keyL x, ⟨x, hm, rfl⟩, ?_⟩
    simp [keyL, Lit.sameKey]
theorem snocInd {α : Type} {M : List α → Prop} (h0 : M []) (h1 : ∀ l x, M l → M (l ++ [x])) (l : List α) : M l := by
  have h : ∀ r : List α, M r.reverse := fun r => by
    induction r with
    | nil => exact h0
    | cons x r ih => rw [List.reverse_cons]; exact h1 _ _ ih
  have e := h l.reverse
  rwa [List.reverse_reverse] at e
theorem setK_size {n k : Nat} (A : ArrKey Try.prog k 5 n) : ∀ (l : List (List Nat)), (∀ y ∈ l, y.length = n ∧ ∀ b ∈ y, b < 256) → Maps.size (setK l) ≤ l.length ∧ (dupK l = true ↔ Maps.size (setK l) < l.length) := by
  refine snocInd (fun _ => ⟨Nat.le_refl _, by simp [dupK]⟩) (fun l x ih hl => ?_)
  have hl' : ∀ y ∈ l, y.length = n ∧ ∀ b ∈ y, b < 256 := fun y hy => hl y (by simp [hy])
  obtain ⟨i1, i2⟩ := ih hl'
  have hh := setK_has A l hl' x (hl x (by simp))
  rw [setK_snoc, Maps.size_put (show Maps.Tidy (setK l) from Maps.tidy_setOf _ _ (setK_keys l)) _, hh, dupK_snoc, List.length_append, List.length_singleton]
  cases hc : l.contains x with
  | true => simp; omega
  | false =>
    simp only [Bool.or_false, Bool.false_eq_true, if_false]
    exact ⟨by omega, i2.trans ⟨fun h => by omega, fun h => by omega⟩⟩
end Go.Proofs.Ytklpcppdjcedpaa
