/- Items of a trie: how long, how deep; text, list, packed, reference. -/
import Derived.Test.YtfdihphhmhgejaaM32
import Derived.Test.YtfdihphhmhgejaaM12
set_option linter.unusedVariables false
set_option linter.unusedSimpArgs false
namespace Go.Proofs.Ytfdihphhmhgejaa
open Go.RowKit Tr

mutual
theorem dep_le : ∀ it : It, dep it ≤ (enc it).length
  | .str l => by rw [dep_str]; omega
  | .lst l => by
    have h1 := deps_le l
    rw [dep_lst, enc_lst, List.length_append, hd_length]
    have := hsz_pos (encs l).length
    omega
theorem deps_le : ∀ l : List It, deps l ≤ (encs l).length
  | [] => by rw [deps]; omega
  | x :: r => by
    have h1 := dep_le x
    have h2 := deps_le r
    rw [deps, encs, List.length_append]
    omega
end
theorem deps_le_of {l : List It} {m : Nat} (h : ∀ x ∈ l, dep x ≤ m) : deps l ≤ m := by
  induction l with
  | nil => rw [deps]; omega
  | cons x r ih =>
    rw [deps]
    have h1 := h x List.mem_cons_self
    have h2 := ih fun y hy => h y (List.mem_cons_of_mem _ hy)
    omega
theorem encs_le_of {l : List It} {m : Nat} (h : ∀ x ∈ l, (enc x).length ≤ m) : (encs l).length ≤ l.length * m := by
  induction l with
  | nil => simp [encs]
  | cons x r ih =>
    have h1 := h x List.mem_cons_self
    have h2 := ih fun y hy => h y (List.mem_cons_of_mem _ hy)
    rw [encs, List.length_append, List.length_cons, Nat.succ_mul]
    omega
theorem encS_leT {l : List Nat} (h : l.length < 4294967296) : (encS l).length ≤ 5 + l.length := by
  unfold encS
  split
  · omega
  · rw [List.length_append, hd_length]
    have := hsz_le h
    omega
theorem enc_lst_leT {l : List It} (h : (encs l).length < 4294967296) : (enc (.lst l)).length ≤ 5 + (encs l).length := by
  rw [enc_lst, List.length_append, hd_length]
  have := hsz_le h
  omega
section
variable {H : List Nat → List Nat} (hH : ∀ l, (H l).length = 32)
include hH
theorem ref_enc (i : It) : (enc (refI H i)).length ≤ 37 := by
  unfold refI
  split
  · omega
  · rw [enc_str]
    have := encS_leT (l := H (enc i)) (by rw [hH]; decide)
    rw [hH] at this
    omega
omit hH in
theorem ref_dep (i : It) : dep (refI H i) ≤ 31 := by
  unfold refI
  split
  · have := dep_le i
    omega
  · rw [dep_str]; omega
/-- Trees whose paths and values are short. -/
def WT : TN → Prop
  | .nil => True
  | .leaf p u => p.length ≤ 128 ∧ (∀ x ∈ p, x < 16) ∧ u.length ≤ 900000
  | .ext p s => p.length ≤ 128 ∧ (∀ x ∈ p, x < 16) ∧ WT s
  | .branch s u => u.length ≤ 900000 ∧ ∀ d, d < 16 → WT (s d)
omit hH in
theorem jnT_len : ∀ l : List Nat, (jnT l).length ≤ l.length
  | [] => by simp [jnT]
  | [_] => by simp [jnT]
  | _ :: _ :: r => by have := jnT_len r; simp [jnT]; omega
omit hH in
theorem pkT_len (p : List Nat) (leaf : Bool) : (pkT p leaf).length ≤ p.length + 2 := by
  unfold pkT
  have h1 := jnT_len (frT p leaf ++ p)
  have h2 : (frT p leaf).length ≤ 2 := by unfold frT; split <;> simp
  rw [List.length_append] at h1
  omega
theorem item_enc {T : TN} (h : WT T) : (enc (itemT pkT H T)).length ≤ 901000 := by
  cases T with
  | nil =>
    show (enc (.str [])).length ≤ _
    rw [enc_str]
    have := encS_leT (l := []) (by decide)
    simp at this
    omega
  | leaf p u =>
    have h1 := pkT_len p true
    have h2 := encS_leT (l := pkT p true) (by have := h.1; omega)
    have h3 := encS_leT (l := u) (by have := h.2.2; omega)
    have h4 : (encs [.str (pkT p true), .str u]).length ≤ 900200 := by
      simp only [encs, enc_str, List.length_append, List.length_nil]
      have := h.1; have := h.2.2
      omega
    have := enc_lst_leT (l := [.str (pkT p true), .str u]) (by omega)
    show (enc (.lst [.str (pkT p true), .str u])).length ≤ _
    omega
  | ext p s =>
    have h1 := pkT_len p false
    have h2 := encS_leT (l := pkT p false) (by have := h.1; omega)
    have h3 := ref_enc hH (itemT pkT H s)
    have h4 : (encs [.str (pkT p false), refI H (itemT pkT H s)]).length ≤ 900200 := by
      simp only [encs, enc_str, List.length_append, List.length_nil]
      have := h.1
      omega
    have := enc_lst_leT (l := [.str (pkT p false), refI H (itemT pkT H s)]) (by omega)
    show (enc (.lst [.str (pkT p false), refI H (itemT pkT H s)])).length ≤ _
    omega
  | branch s u =>
    have h3 := encS_leT (l := u) (by have := h.1; omega)
    have h5 := encs_le_of (l := (List.range 16).map fun d => refI H (itemT pkT H (s d))) (m := 37) (by
      intro x hx
      obtain ⟨d, _, rfl⟩ := List.mem_map.1 hx
      exact ref_enc hH _)
    rw [List.length_map, List.length_range] at h5
    have h4 : (encs ((List.range 16).map (fun d => refI H (itemT pkT H (s d))) ++ [.str u])).length ≤ 900700 := by
      rw [encs_append, encs_one, enc_str, List.length_append]
      have := h.1
      omega
    have := enc_lst_leT (l := (List.range 16).map (fun d => refI H (itemT pkT H (s d))) ++ [.str u]) (by omega)
    show (enc (.lst ((List.range 16).map (fun d => refI H (itemT pkT H (s d))) ++ [.str u]))).length ≤ _
    omega
omit hH in
theorem item_dep (T : TN) : dep (itemT pkT H T) ≤ 32 := by
  cases T with
  | nil => show dep (.str []) ≤ _; rw [dep_str]; omega
  | leaf p u =>
    show dep (.lst [.str (pkT p true), .str u]) ≤ _
    rw [dep_lst]
    have := deps_le_of (l := [.str (pkT p true), .str u]) (m := 31) (by
      intro x hx
      simp only [List.mem_cons, List.mem_nil_iff, or_false] at hx
      rcases hx with rfl | rfl <;> rw [dep_str] <;> omega)
    omega
  | ext p s =>
    show dep (.lst [.str (pkT p false), refI H (itemT pkT H s)]) ≤ _
    rw [dep_lst]
    have := deps_le_of (l := [.str (pkT p false), refI H (itemT pkT H s)]) (m := 31) (by
      intro x hx
      simp only [List.mem_cons, List.mem_nil_iff, or_false] at hx
      rcases hx with rfl | rfl
      · rw [dep_str]; omega
      · exact ref_dep _)
    omega
  | branch s u =>
    show dep (.lst ((List.range 16).map (fun d => refI H (itemT pkT H (s d))) ++ [.str u])) ≤ _
    rw [dep_lst]
    have := deps_le_of (l := (List.range 16).map (fun d => refI H (itemT pkT H (s d))) ++ [.str u]) (m := 31) (by
      intro x hx
      rcases List.mem_append.1 hx with hx | hx
      · obtain ⟨d, _, rfl⟩ := List.mem_map.1 hx
        exact ref_dep _
      · rw [List.mem_singleton] at hx
        subst hx
        rw [dep_str]; omega)
    omega
end
/-- Trees built of good entries are such. -/
theorem build_WT : ∀ (f : Nat) (l : List En), (∀ e ∈ l, e.1.length ≤ 128 ∧ (∀ x ∈ e.1, x < 16) ∧ e.2.length ≤ 900000) → WT (buildT f l)
  | 0, _, _ => trivial
  | f + 1, [], _ => trivial
  | f + 1, [e], h => h e (by simp)
  | f + 1, e :: e2 :: l, h => by
    have hr : ∀ (n : Nat) (m : List En), (∀ x ∈ m, x ∈ e :: e2 :: l) → ∀ x ∈ rests n m, x.1.length ≤ 128 ∧ (∀ y ∈ x.1, y < 16) ∧ x.2.length ≤ 900000 := by
      intro n m hm x hx
      obtain ⟨y, hy, rfl⟩ := List.mem_map.1 hx
      have := h y (hm y hy)
      exact ⟨by simp only [List.length_drop]; omega, fun z hz => this.2.1 z (List.mem_of_mem_drop hz), this.2.2⟩
    have he := h e (by simp)
    unfold buildT
    simp only
    split
    · exact ⟨by rw [List.length_take]; omega, fun x hx => he.2.1 x (List.mem_of_mem_take hx), build_WT f _ (hr _ _ fun x hx => hx)⟩
    · refine ⟨?_, fun d _ => build_WT f _ (hr _ _ fun x hx => (List.mem_filter.1 hx).1)⟩
      split
      · exact he.2.2
      · simp
theorem ItC.dn {X : List Nat} {w : World} : ∀ {k : Nat} {x y z : Value} {t : It}, ItC X w k x y z t → ItC X w (dep t + 1) x y z t
  | 0, _, _, _, _, h => h.elim
  | k + 1, _, _, _, .str l, h => by rw [dep_str]; unfold ItC at h ⊢; exact h
  | k + 1, _, _, _, .lst l, h => by
    rw [dep_lst]
    unfold ItC at h ⊢
    obtain ⟨h0, p, c, h1, h2, h3⟩ := h
    refine ⟨h0, p, c, h1, h2, fun hl => ?_⟩
    obtain ⟨b, o, h4, h5, h6, h7⟩ := h3 hl
    refine ⟨b, o, h4, h5, h6, fun i hi => ?_⟩
    obtain ⟨y0, yb, yl, h8, h9, h10, h11⟩ := h7 i hi
    have := deps_mem (l := l) (x := l[i]) (List.getElem_mem hi)
    exact ⟨y0, yb, yl, h8, h9, h10, (ItC.dn h11).up (by omega)⟩
/-- Blocks that hold no byte. -/
def OffX (X : List Nat) (w : World) : Prop := ∀ x ∈ X, ∃ t c, Blk w x t c ∧ NoB c
theorem OffX.tch {X : List Nat} {w w' : World} (h : OffX X w) (hT : Tch [] w w') : OffX X w' := fun x hx => by
  obtain ⟨t, c, h1, h2⟩ := h x hx
  exact ⟨t, c, hT.blk h1 (by simp), h2⟩
theorem OffX.cons {X : List Nat} {w : World} {b : Nat} {t : TypeId} {c : Array Value} (h : OffX X w) (hB : Blk w b t c) (hc : NoB c) : OffX (b :: X) w := fun x hx => by
  rcases List.mem_cons.1 hx with rfl | hx
  · exact ⟨t, c, hB, hc⟩
  · exact h x hx
theorem NoB.item (t : Bool) (p q : Option Addr) (n c m d : Nat) : NoB #[.bool t, .slice p n c, .slice q m d] := fun j x hx => by
  match j with
  | 0 => cases hx
  | 1 => cases hx
  | 2 => cases hx
  | k + 3 => simp at hx
theorem Tch.toX {X : List Nat} {w w' : World} (h : Tch [] w w') : Tch X w w' := h.mono (by simp)
/-- What a function that answers an item answers: none of it lies in a block of X. -/
def ItemPost (X : List Nat) (it : It) (w : World) (e : Ending) (w' : World) : Prop :=
  Tch [] w w' ∧ ∃ (t : Bool) (p : Option Addr) (n c : Nat) (q : Option Addr) (m d : Nat), e = .returned (.agg #[.bool t, .slice p n c, .slice q m d]) ∧ ItC X w' (dep it + 1) (.bool t) (.slice p n c) (.slice q m d) it
theorem build_text (p : Option Addr) (n c : Nat) (w : World) : (Instr.build 27 #[(1, .slice p n c)]).run Try.prog w = .ok (.agg #[.bool false, .slice p n c, .slice none 0 0]) w := by kernel_rfl
theorem build_list (p : Option Addr) (n c : Nat) (w : World) : (Instr.build 27 #[(0, .bool true), (2, .slice p n c)]).run Try.prog w = .ok (.agg #[.bool true, .slice none 0 0, .slice p n c]) w := by kernel_rfl
theorem text_any (X : List Nat) (v : Value) (l : List Nat) (w : World) (hv : RdB w v l) (hX : OffX X w) (hl : l.length < 4611686018427387904) : Calls Try.prog 58 #[v] w (ItemPost X (.str l) w) := by
  have hS := St.start w
  have kb := build_text
  obtain ⟨p, c, rfl⟩ := hv.shape'
  have HV := Lib.hid (And.intro (hv.offL hX) hl)
  clear hv hl hX
  go_enter Try.func58, Try.ntmps58
  go_wp2_with (first
    | (refine st_new hS rfl 27 rfl item_zero ?_; clear hS; intro w1 b1 hS)
    | (refine st_store (b := b1) (c' := #[.bool false, .slice p l.length c, .slice none 0 0]) hS rfl 27 _ _ rfl rfl rfl .head item_sizeT rfl rfl (item3_one _ _ _ _ _ _ _) ?_; clear hS; intro w2 hS))
  obtain ⟨d, hd⟩ := item_tyS
  refine st_post hS 2 27 rfl rfl rfl .head hd rfl item_sizeT rfl (fun hT => ⟨hT, _, _, _, _, _, _, _, rfl, ?_⟩)
  rw [dep_str]
  unfold ItC
  exact ⟨rfl, HV.out.1.tch hT.toX, HV.out.2⟩
theorem list_any (X : List Nat) (v : Value) (l : List It) (w : World) (hv : ItC X w (dep (.lst l) + 1) (.bool true) (.slice none 0 0) v (.lst l)) : Calls Try.prog 56 #[v] w (ItemPost X (.lst l) w) := by
  have hS := St.start w
  have kb := build_list
  obtain ⟨n, p, c, rfl⟩ : ∃ n p c, v = .slice p n c := by
    unfold ItC at hv
    obtain ⟨_, p, c, h, _⟩ := hv
    exact ⟨_, p, c, h⟩
  have HV := Lib.hid hv
  clear hv
  go_enter Try.func56, Try.ntmps56
  go_wp2_with (first
    | (refine st_new hS rfl 27 rfl item_zero ?_; clear hS; intro w1 b1 hS)
    | (refine st_store (b := b1) (c' := #[.bool true, .slice none 0 0, .slice p n c]) hS rfl 27 _ _ rfl rfl rfl .head item_sizeT rfl rfl (item3_one _ _ _ _ _ _ _) ?_; clear hS; intro w2 hS))
  obtain ⟨d, hd⟩ := item_tyS
  exact st_post hS 2 27 rfl rfl rfl .head hd rfl item_sizeT rfl (fun hT => ⟨hT, _, _, _, _, _, _, _, rfl, HV.out.tch hT.toX⟩)
theorem jn_T : ∀ l : List Nat, jn l = jnT l
  | [] => rfl
  | [_] => rfl
  | x :: y :: r => by
    show (16 * x + y) :: jn r = (16 * x + y) :: jnT r
    rw [jn_T r]
theorem packL_T {l : List Nat} (leaf : Bool) (h : ∀ x ∈ l, x < 16) : packL l leaf = some (pkT l leaf) := by
  unfold packL joinL
  have e1 : allN (fr l leaf ++ l) = true := by
    unfold allN
    rw [List.all_eq_true]
    intro x hx
    rcases List.mem_append.1 hx with hx | hx
    · have := fr_lt l leaf x hx; exact decide_eq_true (by omega)
    · exact decide_eq_true (h x hx)
  have e2 : (fr l leaf ++ l).length % 2 = 0 := by
    rw [List.length_append]
    rcases Nat.mod_two_eq_zero_or_one l.length with hp | hp
    · rw [fr_even _ hp]; simp; omega
    · rw [fr_odd _ hp]; simp; omega
  rw [if_pos ⟨e2, e1⟩, jn_T]
  rfl
theorem packed_any (X : List Nat) (v : Value) (l : List Nat) (leaf : Bool) (w : World) (hv : RdB w v l) (hX : OffX X w) (hl : l.length ≤ 128) (hx : ∀ x ∈ l, x < 16) : Calls Try.prog 57 #[v, .bool leaf] w (ItemPost X (.str (pkT l leaf)) w) := by
  have hS := St.start w
  have HP := Lib.hid (fun (w' : World) (hT : Tch [] w w') => (Pack_any v l leaf w' (by omega) (hv.tch hT (by simp)).rdA0))
  rw [packL_T leaf hx] at HP
  have hlen := pkT_len l leaf
  have HL := Lib.hid (And.intro (show (pkT l leaf).length < 4611686018427387904 by omega) hX)
  clear hlen hv hl hx hX
  generalize pkT l leaf = L at *
  go_enter Try.func57, Try.ntmps57
  go_wp2_with (first
    | (refine st_new hS rfl 27 rfl item_zero ?_; clear hS; intro w1 b1 hS)
    | (go_at_call 78; refine (HP.out _ hS.frame).mono ?_; rintro e w2 ⟨hT, u, rfl, hu⟩; replace hu := hu.rdB; replace hS := hS.call hT; clear hT)
    | (go_at_call 58; refine (text_any (b1 :: X) u L _ hu ((HL.out.2.tch hS.frame).cons (hS.get .head) (NoB.item _ _ _ _ _ _ _)) HL.out.1).mono ?_; rintro e w3 ⟨hT, t, p, n, c, q, m, d, rfl, hI⟩; replace hS := hS.call hT; clear hT)
    | (refine st_storeO (b := b1) (c' := #[.bool t, .slice p n c, .slice q m d]) hS rfl 27 _ _ rfl rfl rfl .head item_sizeT rfl rfl (item3_one _ _ _ _ _ _ _) ?_; clear hS; intro w4 hS hO; replace hI := hI.tch (Tch.mono (cs := b1 :: X) hO.tch (fun x hx => .inl (by rw [List.mem_singleton] at hx; rw [hx]; exact List.mem_cons_self)))))
  obtain ⟨d', hd⟩ := item_tyS
  exact st_post hS 4 27 rfl rfl rfl .head hd rfl item_sizeT rfl (fun hT => ⟨hT, _, _, _, _, _, _, _, rfl, hI.mono (by intro y hy; exact .inl (List.mem_cons_of_mem _ hy))⟩)
end Go.Proofs.Ytfdihphhmhgejaa

/- reference. -/
namespace Go.Proofs.Ytfdihphhmhgejaa
open Go.RowKit Tr

/-- A hash, as bytes. -/
def HL (l : List Nat) : List Nat := (List.range 32).map (hashN l)
theorem HL_len (l : List Nat) : (HL l).length = 32 := by simp [HL]
/-- What item answers, asked of v from world w on. -/
def ItemOK (v : Value) (it : It) (w : World) : Prop := ∀ (Y : List Nat) (w1 : World), Tch [] w w1 → OffX Y w1 → Calls Try.prog 37 #[v, (.func (.func 18) #[] #[])] w1 (ItemPost Y it w1)
theorem enc_b {X : List Nat} {w : World} {k : Nat} {x0 vb vl : Value} {it : It} (h : ItC X w k x0 vb vl it) (he : (enc it).length ≤ 901000) : ∀ x ∈ enc it, x < 256 := enc_lt h (by omega)
set_option maxHeartbeats 2000000 in
set_option maxRecDepth 100000 in
theorem reference_any (X : List Nat) (v : Value) (it : It) (w : World) (HI : ItemOK v it w) (he : (enc it).length ≤ 901000) (hd : dep it ≤ 32) (hX : OffX X w) :
    Calls Try.prog 59 #[v, (.func (.func 18) #[] #[])] w (ItemPost X (refI HL it) w) := by
  have hS := St.start w
  have HIT := Lib.hid HI
  have HXX := Lib.hid hX
  have HPK := Lib.hid (fun (Y : List Nat) (w1 : World) (x0 vb vl : Value) (hI : ItC Y w1 (dep it + 1) x0 vb vl it) => And.intro (tpack_any (dep it + 1) x0 vb vl it w1 (hI.mono (Y := []) (by simp)) ⟨hd, by omega⟩) (enc_b hI he))
  obtain ⟨L, hL⟩ : ∃ L, L = enc it := ⟨_, rfl⟩
  have hLle : L.length ≤ 901000 := by rw [hL]; exact he
  rw [← hL] at HPK
  have HLL := Lib.hid (And.intro hL hLle)
  have ks := slice_word
  obtain ⟨ds, hds⟩ := item_tyS
  by_cases hlt : L.length < 32
  · have e1 : (L.length : Int) < 32 := by omega
    have hpost : refI HL it = it := by unfold refI; rw [if_pos (by rw [← hL]; exact hlt)]
    rw [hpost]
    clear hL hLle hlt he HI hX hpost
    go_enter Try.func59, Try.ntmps59
    go_wp2_with (first
      | (have hq := hI; refine st_newT hS rfl 27 rfl item_zero ?_; clear hS; intro w3 b5 hS hTn hbn)
      | (refine st_new hS rfl 27 rfl item_zero ?_; clear hS; intro w1 b1 hS)
      | (go_at_call 37; refine (HIT.out (b1 :: X) _ hS.frame ((HXX.out.tch hS.frame).cons (hS.get .head) (NoB.item _ _ _ _ _ _ _))).mono ?_; rintro e w2 ⟨hT, t, p, n, c, q, m, d, rfl, hI⟩; replace hS := hS.call hT; clear hT)
      | (refine st_storeO (b := b5) (c' := #[.bool t, .slice p n c, .slice q m d]) hS rfl 27 _ _ rfl rfl rfl .head item_sizeT rfl rfl (item3_one _ _ _ _ _ _ _) ?_; clear hS; intro w4 hS hO; replace hI := hI.tch (hTn.only hO (.inl hbn)).toX; clear hO hTn hbn)
      | (refine st_load (b := b5) hS rfl 27 _ rfl rfl .head hds rfl item_sizeT rfl ?_)
      | (go_at_call 36; refine (HPK.out _ _ _ _ _ hI).1.mono ?_; rintro e w5 ⟨hT, b6, hb6, rfl, hB6⟩; replace hI := hI.tch hT.toX; replace hS := hS.call hT; clear hT hB6 hb6)
      | (refine st_storeO (b := b1) (c' := #[.bool t, .slice p n c, .slice q m d]) hS rfl 27 _ _ rfl rfl rfl (.tail .head) item_sizeT rfl rfl (item3_one _ _ _ _ _ _ _) ?_; clear hS; intro w6 hS hO; replace hI := hI.tch (hO.tch.mono (fun x hx => .inl (by rw [List.mem_singleton] at hx; rw [hx]; exact List.mem_cons_self)))))
    exact st_post hS 4 27 rfl rfl rfl (.tail .head) hds rfl item_sizeT rfl (fun hT => ⟨hT, _, _, _, _, _, _, _, rfl, hI.mono (by intro y hy; exact .inl (List.mem_cons_of_mem _ hy))⟩)
  · have e1 : ¬ (L.length : Int) < 32 := by omega
    have hpost : refI HL it = .str (HL L) := by unfold refI; rw [if_neg (by rw [← hL]; exact hlt), ← hL]
    rw [hpost]
    clear hL hLle hlt he HI hX hpost
    have HTX := Lib.hid (fun (Y : List Nat) (w1 : World) (b7 : Nat) (hB : Blk w1 b7 33 (wf (hashN L))) (hY : OffX Y w1) => text_any Y _ (HL L) w1 (hash_rd L hB) hY (by rw [HL_len]; decide))
    go_enter Try.func59, Try.ntmps59
    go_wp2_with (first
      | (have hq := hI; refine st_newT hS rfl 27 rfl item_zero ?_; clear hS; intro w3 b5 hS hTn hbn)
      | (refine st_new hS rfl 27 rfl item_zero ?_; clear hS; intro w1 b1 hS)
      | (go_at_call 37; refine (HIT.out (b1 :: X) _ hS.frame ((HXX.out.tch hS.frame).cons (hS.get .head) (NoB.item _ _ _ _ _ _ _))).mono ?_; rintro e w2 ⟨hT, t, p, n, c, q, m, d, rfl, hI⟩; replace hS := hS.call hT; clear hT)
      | (refine st_storeO (b := b5) (c' := #[.bool t, .slice p n c, .slice q m d]) hS rfl 27 _ _ rfl rfl rfl .head item_sizeT rfl rfl (item3_one _ _ _ _ _ _ _) ?_; clear hS; intro w4 hS hO; replace hI := hI.tch (hTn.only hO (.inl hbn)).toX; clear hO hTn hbn)
      | (refine st_load (b := b5) hS rfl 27 _ rfl rfl .head hds rfl item_sizeT rfl ?_)
      | (go_at_call 36; have hb256 := (HPK.out _ _ _ _ _ hI).2; refine (HPK.out _ _ _ _ _ hI).1.mono ?_; rintro e w5 hpk; obtain ⟨hT, b6, hb6, rfl, hr⟩ := PkV.rd hpk hb256; clear hpk hb256 hI; replace hS := hS.call hT; clear hT hb6)
      | (go_at_call 18; refine (rsum_any _ L _ hr (by have := HLL.out.2; omega)).mono ?_; rintro e w6 ⟨rfl, hT⟩; replace hS := hS.call hT; clear hT hr)
      | (refine st_new hS rfl 33 rfl word_zero ?_; clear hS; intro w7 b7 hS)
      | (refine st_store (b := b7) (c' := wf (hashN L)) hS rfl 33 _ _ rfl rfl rfl .head word_size (wf_size _) (wf_size _) (wf_one _) ?_; clear hS; intro w8 hS)
      | (go_at_call 58; refine (HTX.out (b1 :: X) _ b7 (hS.get .head) ((HXX.out.tch hS.frame).cons (hS.get (.tail (.tail .head))) (NoB.item _ _ _ _ _ _ _))).mono ?_; rintro e w9 ⟨hT, t, p, n, c, q, m, d, rfl, hI⟩; replace hS := hS.call hT; clear hT)
      | (refine st_storeO (b := b1) (c' := #[.bool t, .slice p n c, .slice q m d]) hS rfl 27 _ _ rfl rfl rfl (.tail (.tail .head)) item_sizeT rfl rfl (item3_one _ _ _ _ _ _ _) ?_; clear hS; intro wa hS hO; replace hI := hI.tch (hO.tch.mono (fun x hx => .inl (by rw [List.mem_singleton] at hx; rw [hx]; exact List.mem_cons_self)))))
    exact st_post hS 4 27 rfl rfl rfl (.tail (.tail .head)) hds rfl item_sizeT rfl (fun hT => ⟨hT, _, _, _, _, _, _, _, rfl, hI.mono (by intro y hy; exact .inl (List.mem_cons_of_mem _ hy))⟩)
end Go.Proofs.Ytfdihphhmhgejaa

/- item: leaves and extensions. -/
namespace Go.Proofs.Ytfdihphhmhgejaa
open Go.RowKit Tr

theorem ta_l_l (v : Value) (w : World) : (Instr.typeAssert (.iface 99 v) 53 99 true).run Try.prog w = .ok (.tuple #[v, .bool true]) w := by kernel_rfl
theorem ta_e_l (v : Value) (w : World) : (Instr.typeAssert (.iface 101 v) 53 99 true).run Try.prog w = .ok (.tuple #[.pointer none, .bool false]) w := by kernel_rfl
theorem ta_e_e (v : Value) (w : World) : (Instr.typeAssert (.iface 101 v) 53 101 true).run Try.prog w = .ok (.tuple #[v, .bool true]) w := by kernel_rfl
theorem ta_b_l (v : Value) (w : World) : (Instr.typeAssert (.iface 113 v) 53 99 true).run Try.prog w = .ok (.tuple #[.pointer none, .bool false]) w := by kernel_rfl
theorem ta_b_e (v : Value) (w : World) : (Instr.typeAssert (.iface 113 v) 53 101 true).run Try.prog w = .ok (.tuple #[.pointer none, .bool false]) w := by kernel_rfl
theorem ta_b_b (v : Value) (w : World) : (Instr.typeAssert (.iface 113 v) 53 113 false).run Try.prog w = .ok v w := by kernel_rfl
theorem eql_node (t : TypeId) (v : Value) (w : World) : (binOp .eql 53 (.iface t v) .nilIface).run Try.prog w = .ok (.bool false) w := by kernel_rfl
theorem fa_lf0 (b : Nat) (w : World) : (Instr.fieldAt 100 (.pointer (some ⟨b, 0, none⟩)) 0).run Try.prog w = .ok (.pointer (some ⟨b, 0, none⟩)) w := by kernel_rfl
theorem fa_lf1 (b : Nat) (w : World) : (Instr.fieldAt 100 (.pointer (some ⟨b, 0, none⟩)) 1).run Try.prog w = .ok (.pointer (some ⟨b, 1, none⟩)) w := by kernel_rfl
theorem fa_ex0 (b : Nat) (w : World) : (Instr.fieldAt 103 (.pointer (some ⟨b, 0, none⟩)) 0).run Try.prog w = .ok (.pointer (some ⟨b, 0, none⟩)) w := by kernel_rfl
theorem fa_ex1 (b : Nat) (w : World) : (Instr.fieldAt 103 (.pointer (some ⟨b, 0, none⟩)) 1).run Try.prog w = .ok (.pointer (some ⟨b, 1, none⟩)) w := by kernel_rfl
theorem tnode_agg : ∀ w, (isAgg 53).run Try.prog w = .ok false w := fun w => by kernel_rfl
theorem buildI2 (t t' : Bool) (p q p' q' : Option Addr) (n c m d n' c' m' d' : Nat) (w : World) :
    (Instr.buildSlice 25 2 #[(0, .agg #[.bool t, .slice p n c, .slice q m d]), (1, .agg #[.bool t', .slice p' n' c', .slice q' m' d'])]).run Try.prog w = .ok (.slice (some ⟨w.heap.size, 0, none⟩) 2 2) (w.alloc (.cells #[.bool t, .slice p n c, .slice q m d, .bool t', .slice p' n' c', .slice q' m' d'] 27)) := by kernel_rfl
section
variable {a : Act} {w : World} {o : Oper} {Q : Exit → Act → World → Prop}
/-- A slice of two items is made. -/
theorem held_bs2 {l0 : List Oper} {n : Nat} {K : Act → World → Prop} {x1 x2 : Operand} {t t' : Bool} {p q p' q' : Option Addr} {n1 c1 m1 d1 n2 c2 m2 d2 : Nat} (ho : l0[n]? = some o) (hw : Region.wanted o (yielded l0.toArray a.tmps) = true)
    (hop : o.op = .buildSlice 25 2 #[(0, x1), (1, x2)]) (h1 : a.eval x1 = .agg #[.bool t, .slice p n1 c1, .slice q m1 d1]) (h2 : a.eval x2 = .agg #[.bool t', .slice p' n2 c2, .slice q' m2 d2])
    (h : K (a.put o.dst (.slice (some ⟨w.heap.size, 0, none⟩) 2 2)) (w.alloc (.cells #[.bool t, .slice p n1 c1, .slice q m1 d1, .bool t', .slice p' n2 c2, .slice q' m2 d2] 27))) : wpOp Try.prog l0.toArray Q n K a w := by
  have ho' : l0.toArray[n]? = some o := by rw [List.getElem?_toArray]; exact ho
  have hr := buildI2 t t' p q p' q' n1 c1 m1 d1 n2 c2 m2 d2 w
  unfold wpOp
  simp only [ho', hw, if_true]
  refine .inl ?_
  unfold Oper.wp execOp
  simp only [hop, List.map_toArray, List.map_cons, List.map_nil, h1, h2, Sem.run_bind, hr, Result.andThen_ok, Sem.run_pure]
  exact h
/-- A whole block is stored. -/
theorem held_storeB {l0 : List Oper} {n m : Nat} {K : Act → World → Prop} {b : Nat} {t ty : TypeId} {c c' : Array Value} {xo yo : Operand} (hB : Blk w b t c) (hi : (Try.prog.info? ty).map (·.size) = some m) (hn : c.size = m) (hn' : c'.size = m) (h1 : c'.all (·.oneCell') = true)
    (ho : l0[n]? = some o) (hw : Region.wanted o (yielded l0.toArray a.tmps) = true) (hop : o.op = .store ty xo yo) (hx : a.eval xo = .pointer (some ⟨b, 0, none⟩)) (hy : a.eval yo = .agg c')
    (h : ∀ w', Only b w w' → Blk w' b t c' → K (a.put o.dst undef) w') : wpOp Try.prog l0.toArray Q n K a w := by
  have ho' : l0.toArray[n]? = some o := by rw [List.getElem?_toArray]; exact ho
  have hr := hB.store (P := Try.prog) hi hn hn' h1
  unfold wpOp
  simp only [ho', hw, if_true]
  refine .inl ?_
  unfold Oper.wp execOp
  simp only [hop, hx, hy, Sem.run_bind, hr, Result.andThen_ok, Sem.run_pure]
  exact h _ (Only.setRow w b c') (hB.row c')
end
/-- A list of items in a row of cells. -/
theorem itc_list {X : List Nat} {w : World} {b n : Nat} {z : Value} {l : List It} (g : Nat → Value × Value × Value) (hn : n = l.length) (hn2 : n < 4611686018427387904) (hb : b < w.heap.size) (hX : b ∉ X)
    (hc : ∀ i (h : i < l.length), w.cell? ⟨b, i * 3, none⟩ = some (g i).1 ∧ w.cell? ⟨b, i * 3 + 1, none⟩ = some (g i).2.1 ∧ w.cell? ⟨b, i * 3 + 2, none⟩ = some (g i).2.2 ∧ ItC X w (dep l[i] + 1) (g i).1 (g i).2.1 (g i).2.2 l[i]) :
    ItC X w (dep (.lst l) + 1) (.bool true) z (.slice (some ⟨b, 0, none⟩) n n) (.lst l) := by
  subst hn
  rw [dep_lst]
  unfold ItC
  refine ⟨rfl, _, _, rfl, ⟨Nat.le_refl _, hn2⟩, fun _ => ⟨b, 0, rfl, hb, hX, fun i hi => ?_⟩⟩
  obtain ⟨h1, h2, h3, h4⟩ := hc i hi
  have := deps_mem (l := l) (x := l[i]) (List.getElem_mem hi)
  refine ⟨_, _, _, ?_, ?_, ?_, h4.up (by omega)⟩
  · rw [Nat.zero_add]; exact h1
  · rw [Nat.zero_add]; exact h2
  · rw [Nat.zero_add]; exact h3
/-- What reference answers, asked of v from world w on. -/
def RefOK (v : Value) (it : It) (w : World) : Prop := ∀ (Y : List Nat) (w1 : World), Tch [] w w1 → OffX Y w1 → Calls Try.prog 59 #[v, (.func (.func 18) #[] #[])] w1 (ItemPost Y it w1)
theorem ItemOK.later {v : Value} {it : It} {w w' : World} (h : ItemOK v it w) (hT : Tch [] w w') : ItemOK v it w' := fun Y w1 h1 hY => h Y w1 (hT.trans h1) hY
theorem ItemOK.ref {v : Value} {it : It} {w : World} (h : ItemOK v it w) (he : (enc it).length ≤ 901000) (hd : dep it ≤ 32) : RefOK v (refI HL it) w := fun Y w1 h1 hY => reference_any Y v it w1 (h.later h1) he hd hY
theorem OffX.lt {X : List Nat} {w : World} (h : OffX X w) : ∀ x ∈ X, x < w.heap.size := fun x hx => by
  obtain ⟨t, c, h1, _⟩ := h x hx
  exact h1.lt
set_option maxHeartbeats 4000000 in
set_option maxRecDepth 100000 in
theorem item_leaf (X : List Nat) (b : Nat) (pv uv : Value) (p : List Nat) (u : List Nat) (w : World) (hB : Blk w b 100 #[pv, uv]) (hp : RdB w pv p) (hu : RdB w uv u) (hX : OffX X w) (hl : p.length ≤ 128) (hx : ∀ x ∈ p, x < 16) (hul : u.length ≤ 900000) :
    Calls Try.prog 37 #[.iface 99 (.pointer (some ⟨b, 0, none⟩)), (.func (.func 18) #[] #[])] w (ItemPost X (.lst [.str (pkT p true), .str u]) w) := by
  have hS := St.start w
  have k1 := ta_l_l
  have k0 := eql_node
  obtain ⟨ds, hds⟩ := item_tyS
  obtain ⟨p1, c1, rfl⟩ := hp.shape'
  obtain ⟨p2, c2, rfl⟩ := hu.shape'
  have HC0 := Lib.hid (fun (w' : World) (hT : Tch [] w w') => (hT.cell (p := ⟨b, 0, none⟩) hB.lt (by simp)).trans (hB.cell (j := 0) rfl))
  have HC1 := Lib.hid (fun (w' : World) (hT : Tch [] w w') => (hT.cell (p := ⟨b, 1, none⟩) hB.lt (by simp)).trans (hB.cell (j := 1) rfl))
  have HP := Lib.hid (fun (Y : List Nat) (w' : World) (hT : Tch [] w w') (hY : OffX Y w') => packed_any Y _ p true w' (hp.tch hT (by simp)) hY hl hx)
  have HU := Lib.hid (fun (Y : List Nat) (w' : World) (hT : Tch [] w w') (hY : OffX Y w') => text_any Y _ u w' (hu.tch hT (by simp)) hY (by omega))
  have HX := Lib.hid hX
  clear hp hu hX hl hx hul
  generalize pkT p true = P at *
  go_enter Try.func37, Try.ntmps37
  go_upto_region 5 with (first
    | (refine st_new hS rfl 27 rfl item_zero ?_; clear hS; intro w1 b1 hS))
  have hW1 : Tch [] w w1 := hS.frame
  have hb1 : w.heap.size ≤ b1 := (hS.own .head).resolve_right (by simp)
  have hB1 := hS.get .head
  clear hS
  refine wp_region_held_drew (S := fun w' => Tch [] w w') (by kernel_rfl) (hW1.drew) (fun hC => ?_)
  have hTd : Tch [] w1 w1.drew := (Tch.refl _ _).drew
  generalize World.drew w1 = u0 at hC hTd ⊢
  have hB10 := hTd.blk hB1 (by simp)
  refine held_in (v := .pointer (some ⟨b, 0, none⟩)) 0 rfl (by kernel_rfl) (by kernel_rfl) (by kernel_rfl) (fun _ _ _ h => h) hC rfl (fun w' hw' => x_val (.inl rfl) rfl) ?_
  try simp only [Act.put, List.setIfInBounds_toArray, List.set_cons_zero, List.set_cons_succ]
  refine held_in (v := .pointer (some ⟨b, 0, none⟩)) 1 rfl (by kernel_rfl) (by kernel_rfl) (by kernel_rfl) (fun _ _ _ h => h) hC rfl (fun w' hw' => x_nilck _ rfl rfl) ?_
  try simp only [Act.put, List.setIfInBounds_toArray, List.set_cons_zero, List.set_cons_succ]
  refine held_in (v := .pointer (some ⟨b, 0, none⟩)) 2 rfl (by kernel_rfl) (by kernel_rfl) (by kernel_rfl) (fun _ _ _ h => h) hC rfl (fun w' hw' => x_fa _ _ _ rfl rfl (fa_lf0 _ _)) ?_
  try simp only [Act.put, List.setIfInBounds_toArray, List.set_cons_zero, List.set_cons_succ]
  refine held_in (v := .slice p1 p.length c1) 3 rfl (by kernel_rfl) (by kernel_rfl) (by kernel_rfl) (fun _ _ _ h => h) hC rfl (fun w' hw' => x_cell _ _ rfl rfl (HC0.out w' hw') bytes_agg) ?_
  try simp only [Act.put, List.setIfInBounds_toArray, List.set_cons_zero, List.set_cons_succ]
  refine held_in (v := .pointer (some ⟨b, 0, none⟩)) 5 rfl (by kernel_rfl) (by kernel_rfl) (by kernel_rfl) (fun _ _ _ h => h) hC rfl (fun w' hw' => x_val (.inl rfl) rfl) ?_
  try simp only [Act.put, List.setIfInBounds_toArray, List.set_cons_zero, List.set_cons_succ]
  refine held_in (v := .pointer (some ⟨b, 0, none⟩)) 6 rfl (by kernel_rfl) (by kernel_rfl) (by kernel_rfl) (fun _ _ _ h => h) hC rfl (fun w' hw' => x_nilck _ rfl rfl) ?_
  try simp only [Act.put, List.setIfInBounds_toArray, List.set_cons_zero, List.set_cons_succ]
  refine held_in (v := .pointer (some ⟨b, 1, none⟩)) 7 rfl (by kernel_rfl) (by kernel_rfl) (by kernel_rfl) (fun _ _ _ h => h) hC rfl (fun w' hw' => x_fa _ _ _ rfl rfl (fa_lf1 _ _)) ?_
  try simp only [Act.put, List.setIfInBounds_toArray, List.set_cons_zero, List.set_cons_succ]
  refine held_in (v := .slice p2 u.length c2) 8 rfl (by kernel_rfl) (by kernel_rfl) (by kernel_rfl) (fun _ _ _ h => h) hC rfl (fun w' hw' => x_cell _ _ rfl rfl (HC1.out w' hw') bytes_agg) ?_
  try simp only [Act.put, List.setIfInBounds_toArray, List.set_cons_zero, List.set_cons_succ]
  have hX0 : OffX (b1 :: X) u0 := (HX.out.tch hC).cons hB10 (NoB.item _ _ _ _ _ _ _)
  refine held_one 4 (by kernel_rfl) ?_
  refine held_call2 (v1 := .slice p1 p.length c1) (v2 := .bool true) rfl rfl rfl (by rfl) (by rfl) Try.call57 (HP.out (b1 :: X) u0 hC hX0) ?_
  rintro e u1 ⟨hT1, t1, q1, n1, d1, r1, m1, e1, rfl, hI1⟩
  have hC1 := hC.trans hT1
  refine ⟨_, rfl, hC1, ?_⟩
  try simp only [Act.put, List.setIfInBounds_toArray, List.set_cons_zero, List.set_cons_succ]
  refine held_one 9 (by kernel_rfl) ?_
  refine held_call (v1 := .slice p2 u.length c2) rfl rfl rfl (by rfl) Try.call58 (HU.out (b1 :: X) u1 hC1 (hX0.tch hT1)) ?_
  rintro e u2 ⟨hT2, t2, q2, n2, d2, r2, m2, e2, rfl, hI2⟩
  have hC2 := hC1.trans hT2
  refine ⟨_, rfl, hC2, ?_⟩
  try simp only [Act.put, List.setIfInBounds_toArray, List.set_cons_zero, List.set_cons_succ]
  refine held_one 10 (by kernel_rfl) ?_
  refine held_bs2 rfl rfl rfl (by rfl) (by rfl) ?_
  have hTa : Tch [] u2 (u2.alloc (.cells #[.bool t1, .slice q1 n1 d1, .slice r1 m1 e1, .bool t2, .slice q2 n2 d2, .slice r2 m2 e2] 27)) := (Tch.refl _ _).alloc _
  have hBa := Blk.new u2 27 #[.bool t1, .slice q1 n1 d1, .slice r1 m1 e1, .bool t2, .slice q2 n2 d2, .slice r2 m2 e2]
  have hC3 := hC2.trans hTa
  refine ⟨hC3, ?_⟩
  generalize u2.alloc (.cells #[.bool t1, .slice q1 n1 d1, .slice r1 m1 e1, .bool t2, .slice q2 n2 d2, .slice r2 m2 e2] 27) = u3 at hTa hBa hC3 ⊢
  try simp only [Act.put, List.setIfInBounds_toArray, List.set_cons_zero, List.set_cons_succ]
  have hLs : ItC (b1 :: X) u3 (dep (.lst [.str P, .str u]) + 1) (.bool true) (.slice none 0 0) (.slice (some ⟨u2.heap.size, 0, none⟩) 2 2) (.lst [.str P, .str u]) := by
    refine itc_list (fun i => if i = 0 then (.bool t1, .slice q1 n1 d1, .slice r1 m1 e1) else (.bool t2, .slice q2 n2 d2, .slice r2 m2 e2)) rfl (by decide) hBa.lt (fun hm => Nat.lt_irrefl _ (((hX0.tch hT1).tch hT2).lt _ hm)) fun i hi => ?_
    match i, hi with
    | 0, _ => exact ⟨hBa.cell (j := 0) rfl, hBa.cell (j := 1) rfl, hBa.cell (j := 2) rfl, (hI1.tch hT2.toX).tch hTa.toX⟩
    | 1, _ => exact ⟨hBa.cell (j := 3) rfl, hBa.cell (j := 4) rfl, hBa.cell (j := 5) rfl, hI2.tch hTa.toX⟩
  refine held_one 11 (by kernel_rfl) ?_
  refine held_call (v1 := .slice (some ⟨u2.heap.size, 0, none⟩) 2 2) rfl rfl rfl (by rfl) Try.call56 (list_any (b1 :: X) _ _ u3 hLs) ?_
  rintro e u4 ⟨hT4, t4, q4, n4, d4, r4, m4, e4, rfl, hI4⟩
  have hC4 := hC3.trans hT4
  refine ⟨_, rfl, hC4, ?_⟩
  try simp only [Act.put, List.setIfInBounds_toArray, List.set_cons_zero, List.set_cons_succ]
  have hB14 := hT4.blk (hTa.blk (hT2.blk (hT1.blk hB10 (by simp)) (by simp)) (by simp)) (by simp)
  refine held_one 12 (by kernel_rfl) ?_
  refine held_storeB (c' := #[.bool t4, .slice q4 n4 d4, .slice r4 m4 e4]) hB14 item_sizeT rfl rfl (item3_one _ _ _ _ _ _ _) rfl rfl rfl (by rfl) (by rfl) ?_
  intro u5 hO hB15
  have hC5 := hC4.only hO (.inl hb1)
  refine ⟨hC5, ?_⟩
  refine wpAnyH_done (by kernel_rfl) ?_ _
  have hI5 := (hI4.tch (hO.tch.mono (fun x hx => .inl (by rw [List.mem_singleton] at hx; rw [hx]; exact List.mem_cons_self)))).mono (Y := X) (by intro y hy; exact .inl (List.mem_cons_of_mem _ hy))
  clear HC0 HC1 HP HU HX hC hC1 hC2 hC3 hC4 hTd hT1 hT2 hTa hT4 hI1 hI2 hI4 hLs hX0 hB10 hB14 hB1 hBa hO hW1
  go_wp2
  exact post_cell 4 27 rfl rfl rfl hB15 hds rfl item_sizeT rfl ⟨hC5, _, _, _, _, _, _, _, rfl, hI5⟩
set_option maxHeartbeats 4000000 in
set_option maxRecDepth 100000 in
theorem item_ext (X : List Nat) (b : Nat) (pv uv : Value) (p : List Nat) (u : It) (w : World) (hB : Blk w b 103 #[pv, uv]) (hp : RdB w pv p) (hr : RefOK uv u w) (hk : uv.oneCell' = true) (hX : OffX X w) (hl : p.length ≤ 128) (hx : ∀ x ∈ p, x < 16) :
    Calls Try.prog 37 #[.iface 101 (.pointer (some ⟨b, 0, none⟩)), (.func (.func 18) #[] #[])] w (ItemPost X (.lst [.str (pkT p false), u]) w) := by
  have hS := St.start w
  have k1 := ta_e_l
  have k2 := ta_e_e
  have k0 := eql_node
  obtain ⟨ds, hds⟩ := item_tyS
  obtain ⟨p1, c1, rfl⟩ := hp.shape'
  have HC0 := Lib.hid (fun (w' : World) (hT : Tch [] w w') => (hT.cell (p := ⟨b, 0, none⟩) hB.lt (by simp)).trans (hB.cell (j := 0) rfl))
  have HC1 := Lib.hid (fun (w' : World) (hT : Tch [] w w') => (hT.cell (p := ⟨b, 1, none⟩) hB.lt (by simp)).trans (hB.cell (j := 1) rfl))
  have HP := Lib.hid (fun (Y : List Nat) (w' : World) (hT : Tch [] w w') (hY : OffX Y w') => packed_any Y _ p false w' (hp.tch hT (by simp)) hY hl hx)
  have HU := Lib.hid (fun (Y : List Nat) (w' : World) (hT : Tch [] w w') (hY : OffX Y w') => hr Y w' hT hY)
  have HX := Lib.hid hX
  clear hp hr hX hl hx
  generalize pkT p false = P at *
  go_enter Try.func37, Try.ntmps37
  go_upto_region 8 with (first
    | (refine st_new hS rfl 27 rfl item_zero ?_; clear hS; intro w1 b1 hS))
  have hW1 : Tch [] w w1 := hS.frame
  have hb1 : w.heap.size ≤ b1 := (hS.own .head).resolve_right (by simp)
  have hB1 := hS.get .head
  clear hS
  refine wp_region_held_drew (S := fun w' => Tch [] w w') (by kernel_rfl) (hW1.drew) (fun hC => ?_)
  have hTd : Tch [] w1 w1.drew := (Tch.refl _ _).drew
  generalize World.drew w1 = u0 at hC hTd ⊢
  have hB10 := hTd.blk hB1 (by simp)
  refine held_in (v := .pointer (some ⟨b, 0, none⟩)) 0 rfl (by kernel_rfl) (by kernel_rfl) (by kernel_rfl) (fun _ _ _ h => h) hC rfl (fun w' hw' => x_val (.inl rfl) rfl) ?_
  try simp only [Act.put, List.setIfInBounds_toArray, List.set_cons_zero, List.set_cons_succ]
  refine held_in (v := .pointer (some ⟨b, 0, none⟩)) 1 rfl (by kernel_rfl) (by kernel_rfl) (by kernel_rfl) (fun _ _ _ h => h) hC rfl (fun w' hw' => x_nilck _ rfl rfl) ?_
  try simp only [Act.put, List.setIfInBounds_toArray, List.set_cons_zero, List.set_cons_succ]
  refine held_in (v := .pointer (some ⟨b, 0, none⟩)) 2 rfl (by kernel_rfl) (by kernel_rfl) (by kernel_rfl) (fun _ _ _ h => h) hC rfl (fun w' hw' => x_fa _ _ _ rfl rfl (fa_ex0 _ _)) ?_
  try simp only [Act.put, List.setIfInBounds_toArray, List.set_cons_zero, List.set_cons_succ]
  refine held_in (v := .slice p1 p.length c1) 3 rfl (by kernel_rfl) (by kernel_rfl) (by kernel_rfl) (fun _ _ _ h => h) hC rfl (fun w' hw' => x_cell _ _ rfl rfl (HC0.out w' hw') bytes_agg) ?_
  try simp only [Act.put, List.setIfInBounds_toArray, List.set_cons_zero, List.set_cons_succ]
  refine held_in (v := .pointer (some ⟨b, 0, none⟩)) 5 rfl (by kernel_rfl) (by kernel_rfl) (by kernel_rfl) (fun _ _ _ h => h) hC rfl (fun w' hw' => x_val (.inl rfl) rfl) ?_
  try simp only [Act.put, List.setIfInBounds_toArray, List.set_cons_zero, List.set_cons_succ]
  refine held_in (v := .pointer (some ⟨b, 0, none⟩)) 6 rfl (by kernel_rfl) (by kernel_rfl) (by kernel_rfl) (fun _ _ _ h => h) hC rfl (fun w' hw' => x_nilck _ rfl rfl) ?_
  try simp only [Act.put, List.setIfInBounds_toArray, List.set_cons_zero, List.set_cons_succ]
  refine held_in (v := .pointer (some ⟨b, 1, none⟩)) 7 rfl (by kernel_rfl) (by kernel_rfl) (by kernel_rfl) (fun _ _ _ h => h) hC rfl (fun w' hw' => x_fa _ _ _ rfl rfl (fa_ex1 _ _)) ?_
  try simp only [Act.put, List.setIfInBounds_toArray, List.set_cons_zero, List.set_cons_succ]
  refine held_in (v := uv) 8 rfl (by kernel_rfl) (by kernel_rfl) (by kernel_rfl) (fun _ _ _ h => h) hC rfl (fun w' hw' => x_cell _ _ rfl rfl (HC1.out w' hw') tnode_agg) ?_
  try simp only [Act.put, List.setIfInBounds_toArray, List.set_cons_zero, List.set_cons_succ]
  refine held_in (v := (.func (.func 18) #[] #[])) 9 rfl (by kernel_rfl) (by kernel_rfl) (by kernel_rfl) (fun _ _ _ h => h) hC rfl (fun w' hw' => x_val (.inl rfl) rfl) ?_
  try simp only [Act.put, List.setIfInBounds_toArray, List.set_cons_zero, List.set_cons_succ]
  have hX0 : OffX (b1 :: X) u0 := (HX.out.tch hC).cons hB10 (NoB.item _ _ _ _ _ _ _)
  refine held_one 4 (by kernel_rfl) ?_
  refine held_call2 (v1 := .slice p1 p.length c1) (v2 := .bool false) rfl rfl rfl (by rfl) (by rfl) Try.call57 (HP.out (b1 :: X) u0 hC hX0) ?_
  rintro e u1 ⟨hT1, t1, q1, n1, d1, r1, m1, e1, rfl, hI1⟩
  have hC1 := hC.trans hT1
  refine ⟨_, rfl, hC1, ?_⟩
  try simp only [Act.put, List.setIfInBounds_toArray, List.set_cons_zero, List.set_cons_succ]
  refine held_one 10 (by kernel_rfl) ?_
  refine held_call2 (v1 := uv) (v2 := (.func (.func 18) #[] #[])) rfl rfl rfl (by rfl) (by rfl) Try.call59 (HU.out (b1 :: X) u1 hC1 (hX0.tch hT1)) ?_
  rintro e u2 ⟨hT2, t2, q2, n2, d2, r2, m2, e2, rfl, hI2⟩
  have hC2 := hC1.trans hT2
  refine ⟨_, rfl, hC2, ?_⟩
  try simp only [Act.put, List.setIfInBounds_toArray, List.set_cons_zero, List.set_cons_succ]
  refine held_one 11 (by kernel_rfl) ?_
  refine held_bs2 rfl rfl rfl (by rfl) (by rfl) ?_
  have hTa : Tch [] u2 (u2.alloc (.cells #[.bool t1, .slice q1 n1 d1, .slice r1 m1 e1, .bool t2, .slice q2 n2 d2, .slice r2 m2 e2] 27)) := (Tch.refl _ _).alloc _
  have hBa := Blk.new u2 27 #[.bool t1, .slice q1 n1 d1, .slice r1 m1 e1, .bool t2, .slice q2 n2 d2, .slice r2 m2 e2]
  have hC3 := hC2.trans hTa
  refine ⟨hC3, ?_⟩
  generalize u2.alloc (.cells #[.bool t1, .slice q1 n1 d1, .slice r1 m1 e1, .bool t2, .slice q2 n2 d2, .slice r2 m2 e2] 27) = u3 at hTa hBa hC3 ⊢
  try simp only [Act.put, List.setIfInBounds_toArray, List.set_cons_zero, List.set_cons_succ]
  have hLs : ItC (b1 :: X) u3 (dep (.lst [.str P, u]) + 1) (.bool true) (.slice none 0 0) (.slice (some ⟨u2.heap.size, 0, none⟩) 2 2) (.lst [.str P, u]) := by
    refine itc_list (fun i => if i = 0 then (.bool t1, .slice q1 n1 d1, .slice r1 m1 e1) else (.bool t2, .slice q2 n2 d2, .slice r2 m2 e2)) rfl (by decide) hBa.lt (fun hm => Nat.lt_irrefl _ (((hX0.tch hT1).tch hT2).lt _ hm)) fun i hi => ?_
    match i, hi with
    | 0, _ => exact ⟨hBa.cell (j := 0) rfl, hBa.cell (j := 1) rfl, hBa.cell (j := 2) rfl, (hI1.tch hT2.toX).tch hTa.toX⟩
    | 1, _ => exact ⟨hBa.cell (j := 3) rfl, hBa.cell (j := 4) rfl, hBa.cell (j := 5) rfl, hI2.tch hTa.toX⟩
  refine held_one 12 (by kernel_rfl) ?_
  refine held_call (v1 := .slice (some ⟨u2.heap.size, 0, none⟩) 2 2) rfl rfl rfl (by rfl) Try.call56 (list_any (b1 :: X) _ _ u3 hLs) ?_
  rintro e u4 ⟨hT4, t4, q4, n4, d4, r4, m4, e4, rfl, hI4⟩
  have hC4 := hC3.trans hT4
  refine ⟨_, rfl, hC4, ?_⟩
  try simp only [Act.put, List.setIfInBounds_toArray, List.set_cons_zero, List.set_cons_succ]
  have hB14 := hT4.blk (hTa.blk (hT2.blk (hT1.blk hB10 (by simp)) (by simp)) (by simp)) (by simp)
  refine held_one 13 (by kernel_rfl) ?_
  refine held_storeB (c' := #[.bool t4, .slice q4 n4 d4, .slice r4 m4 e4]) hB14 item_sizeT rfl rfl (item3_one _ _ _ _ _ _ _) rfl rfl rfl (by rfl) (by rfl) ?_
  intro u5 hO hB15
  have hC5 := hC4.only hO (.inl hb1)
  refine ⟨hC5, ?_⟩
  refine wpAnyH_done (by kernel_rfl) ?_ _
  have hI5 := (hI4.tch (hO.tch.mono (fun x hx => .inl (by rw [List.mem_singleton] at hx; rw [hx]; exact List.mem_cons_self)))).mono (Y := X) (by intro y hy; exact .inl (List.mem_cons_of_mem _ hy))
  clear HC0 HC1 HP HU HX hC hC1 hC2 hC3 hC4 hTd hT1 hT2 hTa hT4 hI1 hI2 hI4 hLs hX0 hB10 hB14 hB1 hBa hO hW1
  go_wp2
  exact post_cell 4 27 rfl rfl rfl hB15 hds rfl item_sizeT rfl ⟨hC5, _, _, _, _, _, _, _, rfl, hI5⟩
end Go.Proofs.Ytfdihphhmhgejaa
