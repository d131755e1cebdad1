/- trie.pack; the closure that hashes; the roots of nothing. -/
import Derived.Test.YtfdihphhmhgejaaM20
import Derived.Test.YtfdihphhmhgejaaM03
set_option linter.unusedVariables false
set_option linter.unusedSimpArgs false
namespace Go.Proofs.Ytfdihphhmhgejaa
open Go.RowKit

theorem st_buildV {ops : Array Oper} {rest : List Oper} {o : Oper} {a : Act} {bs : List Nat} {w0 w : World} {Q : Exit → Act → World → Prop} {L : List Ent} {n : Nat} {ty t : TypeId} {c : Array Value} {parts : Array (Nat × Operand)} (vals : Array (Nat × Value)) (hS : St bs w0 w L) (hgd : o.guard = none) (ho : o.op = .buildSlice ty n parts)
    (hv : (parts.map fun (i, x) => (i, a.eval x)) = vals) (hr : ∀ w : World, (Instr.buildSlice ty n vals).run Try.prog w = .ok (.slice (some ⟨w.heap.size, 0, none⟩) n n) (w.alloc (.cells c t)))
    (h : ∀ w' b, St bs w0 w' ((b, t, c) :: L) → wpList Try.prog ops Q rest (a.put o.dst (.slice (some ⟨b, 0, none⟩) n n)) w') : wpList Try.prog ops Q (o :: rest) a w :=
  wpList_plain hgd fun K hK => by
    subst hv
    have hr2 := hr w
    unfold Oper.wp execOp
    simp only [ho, Sem.run_bind, hr2, Result.andThen_ok, Sem.run_pure]
    exact hK _ _ (h _ _ (hS.new t c))
theorem buildB1 (p1 : Option Addr) (n1 c1 : Nat) (w : World) : (Instr.buildSlice 76 1 #[(0, .slice p1 n1 c1)]).run Try.prog w = .ok (.slice (some ⟨w.heap.size, 0, none⟩) 1 1) (w.alloc (.cells #[.slice p1 n1 c1] 22)) := by kernel_rfl
theorem buildU1 (x : Int) (w : World) : (Instr.buildSlice 22 1 #[(0, .int .u8 x)]).run Try.prog w = .ok (.slice (some ⟨w.heap.size, 0, none⟩) 1 1) (w.alloc (.cells #[.int .u8 x] 5)) := by kernel_rfl
theorem packpost_ok {it : It} {w w' : World} {e : Ending} (h : dep it ≤ 32 ∧ (enc it).length ≤ 16777216) (hp : PackPost it w e w') : Tch [] w w' ∧ ∃ b, w.heap.size ≤ b ∧ e = .returned (.tuple #[.slice (some ⟨b, 0, none⟩) (enc it).length (enc it).length, .int .i64 0]) ∧ Blk w' b 5 (bc (enc it).length fun i => (enc it).getD i 0) := by
  unfold PackPost at hp; rwa [if_pos h] at hp
/-- What trie.pack answers. -/
def PkV (l : List Nat) (w : World) (e : Ending) (w' : World) : Prop :=
  Tch [] w w' ∧ ∃ b, w.heap.size ≤ b ∧ e = .returned (.slice (some ⟨b, 0, none⟩) l.length l.length) ∧ Blk w' b 5 (bc l.length fun i => l.getD i 0)
set_option maxHeartbeats 1000000 in
theorem tpack_any (k : Nat) (x0 vb vl : Value) (it : It) (w : World) (hit : ItC [] w k x0 vb vl it) (h : dep it ≤ 32 ∧ (enc it).length ≤ 16777216) :
    Calls Try.prog 36 #[.agg #[x0, vb, vl]] w (PkV (enc it) w) := by
  have hS := St.start w
  obtain ⟨d, hd⟩ := item_tyS
  have hcall := fun (w1 : World) (hT : Tch [] w w1) => (pack_any k x0 vb vl it w1 (hit.tch hT)).mono fun e w' hp => packpost_ok h hp
  generalize enc it = L at hcall ⊢
  have HC := Lib.hid hcall
  clear hcall hit h
  go_enter Try.func36, Try.ntmps36
  go_wp2_with (first
    | (refine st_box hS rfl 27 _ rfl rfl ?_; clear hS; intro w1 b1 hS)
    | (refine st_load (b := b1) hS rfl 27 _ rfl rfl .head hd rfl item_sizeT rfl ?_)
    | (go_at_call 55; refine (HC.out _ hS.frame).mono ?_; rintro e w2 ⟨hT, b, hb, rfl, hB⟩))
  go_ret
  exact ⟨hS.frame.trans hT, b, Nat.le_trans hS.frame.size hb, rfl, hB⟩
theorem PkV.rd {l : List Nat} {w w' : World} {e : Ending} (h : PkV l w e w') (hl : ∀ x ∈ l, x < 256) : Tch [] w w' ∧ ∃ b, w.heap.size ≤ b ∧ e = .returned (.slice (some ⟨b, 0, none⟩) l.length l.length) ∧ RdB w' (.slice (some ⟨b, 0, none⟩) l.length l.length) l := by
  obtain ⟨h1, b, h2, h3, h4⟩ := h
  exact ⟨h1, b, h2, h3, (RdA.ofBlk (X := []) h4 hl (by simp)).rdB⟩
/-- The closure that hashes. -/
theorem rsum_any (v : Value) (l : List Nat) (w : World) (hv : RdB w v l) (hl : l.length < 1000000) :
    Calls Try.prog 18 #[v] w fun e w' => e = .returned (.agg (wf (hashN l))) ∧ Tch [] w w' := by
  have hS := St.start w
  obtain ⟨pa, n, ca, rfl⟩ : ∃ p n c, v = .slice p n c := ⟨_, _, _, hv.choose_spec.choose_spec.1⟩
  have HC := Lib.hid (fun (w1 : World) (b : Nat) (hT : Tch [] w w1) (hB : Blk w1 b 22 #[.slice pa n ca]) => sum_one b _ l w1 (hB.cell (j := 0) rfl) hB.lt (hv.tch hT (by simp)) hl)
  clear hv hl
  go_enter Try.func18, Try.ntmps18
  go_wp2_with (first
    | (refine st_new hS rfl 33 rfl word_zero ?_; clear hS; intro w1 b1 hS)
    | (refine st_buildV #[(0, .slice pa n ca)] hS rfl rfl (by simp only [List.map_toArray, List.map_cons, List.map_nil]; rfl) (buildB1 _ _ _) ?_; clear hS; intro w2 b2 hS)
    | (go_at_call 19; refine (HC.out _ _ hS.frame (hS.get .head)).mono ?_; rintro e w3 ⟨rfl, hT⟩; replace hS := hS.call hT; clear hT)
    | (refine st_store (b := b1) (c' := wf (hashN l)) hS rfl 33 _ _ rfl rfl rfl (.tail .head) word_size (wf_size _) (wf_size _) (wf_one _) ?_; clear hS; intro w4 hS))
  exact st_post hS 2 33 rfl rfl rfl (.tail .head) word_type rfl word_size (wf_size _) (fun hT => ⟨rfl, hT⟩)
theorem enc_empty : enc (.str []) = [128] := by rw [enc_str]; decide
theorem dep_empty : dep (.str []) = 0 := dep_str _
theorem itc_empty (w : World) : ItC [] w 1 (.bool false) (.slice none 0 0) (.slice none 0 0) (.str []) := by
  unfold ItC
  exact ⟨rfl, (RdB.nil w).rdA (by simp), by simp⟩
theorem encode_none (fv : Value) (w : World) : Calls Try.prog 20 #[.nilIface, fv] w (PkV [128] w) := by
  have HC := Lib.hid (fun (w1 : World) => tpack_any 1 _ _ _ _ w1 (itc_empty w1) (by rw [enc_empty, dep_empty]; simp))
  rw [enc_empty] at HC
  go_enter Try.func20, Try.ntmps20
  go_wp2_with (first
    | (go_at_call 37; refine (item_none _ _).mono ?_; rintro e w1 ⟨rfl, hT1⟩)
    | (go_at_call 36; refine (HC.out w1).mono ?_; rintro e w2 ⟨hT, b, hb, rfl, hB⟩))
  go_ret
  exact ⟨hT1.trans hT, b, Nat.le_trans hT1.size hb, rfl, hB⟩
set_option maxHeartbeats 1000000 in
theorem root_none (w : World) : Calls Try.prog 9 #[.slice none 0 0] w fun e w' => e = .returned (.tuple #[.agg (wf (hashN [128])), .int .i64 0]) ∧ Tch [] w w' := by
  have hS := St.start w
  have HE := Lib.hid (fun (w1 : World) => (encode_none (.func (.func 18) #[] #[]) w1).mono fun e w' h => h.rd (by decide))
  go_enter Try.func9, Try.ntmps9
  go_wp2_with (first
    | (refine st_new hS rfl 33 rfl word_zero ?_; clear hS; intro w1 b1 hS)
    | (go_at_call 17; refine (grow_none _).mono ?_; rintro e w2 ⟨rfl, hT⟩; replace hS := hS.call hT; clear hT)
    | (go_at_call 20; refine (HE.out _).mono ?_; rintro e w3 ⟨hT, b, hb, rfl, hr⟩; replace hS := hS.call hT; clear hT)
    | (go_at_call 18; refine (rsum_any _ [128] _ hr (by decide)).mono ?_; rintro e w4 ⟨rfl, hT⟩; replace hS := hS.call hT; clear hT)
    | (refine st_store (b := b1) (c' := wf (hashN [128])) hS rfl 33 _ _ rfl rfl rfl .head word_size (wf_size _) (wf_size _) (wf_one _) ?_; clear hS; intro w5 hS))
  exact post_cell_one 2 3 33 rfl rfl rfl rfl (hS.get .head) word_type rfl word_size (wf_size _) ⟨rfl, hS.frame⟩
end Go.Proofs.Ytfdihphhmhgejaa

/- Tries as plain mathematics: the document's lists of nodes, by fuel, over a packing of paths and a hash that are left open; the order of the entries makes no difference. No function of the program. -/
namespace Go.Proofs.Ytfdihphhmhgejaa

namespace Tr
/-- How much two lists have in common. -/
def cp : List Nat → List Nat → Nat
  | x :: a, y :: b => if x = y then cp a b + 1 else 0
  | _, _ => 0
theorem le_cp : ∀ {n : Nat} {a b : List Nat}, n ≤ cp a b ↔ n ≤ a.length ∧ n ≤ b.length ∧ a.take n = b.take n
  | 0, a, b => by simp
  | n + 1, [], b => by simp [cp]
  | n + 1, x :: a, [] => by simp [cp]
  | n + 1, x :: a, y :: b => by
    unfold cp
    by_cases h : x = y
    · subst h
      rw [if_pos rfl, Nat.add_le_add_iff_right, le_cp]
      simp
    · rw [if_neg h]
      simp [h]
/-- An entry: a path, a value. -/
abbrev En := List Nat × List Nat
/-- How much all paths have in common with the first one. -/
def cpAll (p : List Nat) (l : List En) : Nat := l.foldl (fun n e => min n (cp p e.1)) p.length
theorem le_fold (p : List Nat) : ∀ (l : List En) (m n : Nat), n ≤ l.foldl (fun n e => min n (cp p e.1)) m ↔ n ≤ m ∧ ∀ e ∈ l, n ≤ cp p e.1
  | [], m, n => by simp
  | e :: l, m, n => by
    rw [List.foldl_cons, le_fold p l]
    simp only [List.mem_cons, forall_eq_or_imp, Nat.le_min, and_assoc]
theorem le_cpAll {p : List Nat} {l : List En} {n : Nat} : n ≤ cpAll p l ↔ n ≤ p.length ∧ ∀ e ∈ l, n ≤ e.1.length ∧ p.take n = e.1.take n := by
  unfold cpAll
  rw [le_fold]
  constructor
  · rintro ⟨h1, h2⟩
    exact ⟨h1, fun e he => (le_cp.1 (h2 e he)).2⟩
  · rintro ⟨h1, h2⟩
    exact ⟨h1, fun e he => le_cp.2 ⟨h1, h2 e he⟩⟩
/-- All of them share so much. -/
def Share (l : List En) (n : Nat) : Prop := ∀ a ∈ l, n ≤ a.1.length ∧ ∀ b ∈ l, a.1.take n = b.1.take n
theorem share_iff {e : En} {l : List En} {n : Nat} : n ≤ cpAll e.1 l ↔ Share (e :: l) n := by
  rw [le_cpAll]
  constructor
  · rintro ⟨h1, h2⟩ a ha
    have key : ∀ x ∈ e :: l, n ≤ x.1.length ∧ e.1.take n = x.1.take n := by
      intro x hx
      rcases List.mem_cons.1 hx with rfl | hx
      · exact ⟨h1, rfl⟩
      · exact h2 x hx
    exact ⟨(key a ha).1, fun b hb => (key a ha).2.symm.trans (key b hb).2⟩
  · intro h
    exact ⟨(h e List.mem_cons_self).1, fun x hx => ⟨(h x (List.mem_cons_of_mem _ hx)).1, (h e List.mem_cons_self).2 x (List.mem_cons_of_mem _ hx)⟩⟩
theorem share_perm {l m : List En} (h : l.Perm m) {n : Nat} : Share l n ↔ Share m n := by
  unfold Share
  constructor
  · intro k a ha
    exact ⟨(k a (h.mem_iff.2 ha)).1, fun b hb => (k a (h.mem_iff.2 ha)).2 b (h.mem_iff.2 hb)⟩
  · intro k a ha
    exact ⟨(k a (h.mem_iff.1 ha)).1, fun b hb => (k a (h.mem_iff.1 ha)).2 b (h.mem_iff.1 hb)⟩
theorem cpAll_perm {e f : En} {l m : List En} (h : (e :: l).Perm (f :: m)) : cpAll e.1 l = cpAll f.1 m := by
  apply Nat.le_antisymm
  · exact share_iff.2 ((share_perm h).1 (share_iff.1 (Nat.le_refl _)))
  · exact share_iff.2 ((share_perm h).2 (share_iff.1 (Nat.le_refl _)))

section
variable (pk : List Nat → Bool → List Nat) (H : List Nat → List Nat)
/-- The rests of the paths. -/
def rests (n : Nat) (l : List En) : List En := l.map fun e => (e.1.drop n, e.2)
/-- Those that begin so. -/
def heads (d : Nat) (l : List En) : List En := l.filter fun e => e.1.head? == some d
/-- The value of the empty path. -/
def own (l : List En) : List Nat := ((l.find? fun e => e.1.isEmpty).map (·.2)).getD []
/-- The item by which a list refers to a node. -/
def refI (i : It) : It := if (enc i).length < 32 then i else .str (H (enc i))
/-- A trie's reference, and its list. -/
def nodeT : Nat → List En → It
  | 0, _ => .str []
  | _ + 1, [] => .str []
  | _ + 1, [e] => .lst [.str (pk e.1 true), .str e.2]
  | f + 1, e :: e2 :: l =>
    let n := cpAll e.1 (e2 :: l)
    if 0 < n then .lst [.str (pk (e.1.take n) false), refI H (nodeT f (rests n (e :: e2 :: l)))]
    else .lst ((List.range 16).map (fun d => if heads d (e :: e2 :: l) = [] then .str [] else refI H (nodeT f (rests 1 (heads d (e :: e2 :: l))))) ++ [.str (own (e :: e2 :: l))])
theorem rests_perm {n : Nat} {l m : List En} (h : l.Perm m) : (rests n l).Perm (rests n m) := h.map _
theorem heads_perm {d : Nat} {l m : List En} (h : l.Perm m) : (heads d l).Perm (heads d m) := h.filter _
/-- No two paths are one. -/
def Apart (l : List En) : Prop := l.Pairwise fun a b => a.1 ≠ b.1
theorem Apart.perm {l m : List En} (h : Apart l) (k : l.Perm m) : Apart m := (k.pairwise_iff fun h => Ne.symm h).1 h
theorem Apart.eq : ∀ {l : List En}, Apart l → ∀ {a b : En}, a ∈ l → b ∈ l → a.1 = b.1 → a = b
  | [], _, a, _, ha, _, _ => by cases ha
  | x :: l, h, a, b, ha, hb, e => by
    obtain ⟨h1, h2⟩ := List.pairwise_cons.1 h
    rcases List.mem_cons.1 ha with ha1 | ha1
    · rcases List.mem_cons.1 hb with hb1 | hb1
      · rw [ha1, hb1]
      · exact absurd (ha1 ▸ e) (h1 b hb1)
    · rcases List.mem_cons.1 hb with hb1 | hb1
      · exact absurd (hb1 ▸ e.symm) (h1 a ha1)
      · exact Apart.eq h2 ha1 hb1 e
theorem own_perm {l m : List En} (ha : Apart l) (h : l.Perm m) : own l = own m := by
  have hm := ha.perm h
  have key : ∀ {l : List En}, Apart l → ∀ e ∈ l, e.1 = [] → own l = e.2 := by
    intro l ha e he h0
    unfold own
    cases hf : l.find? fun e => e.1.isEmpty with
    | none => exact absurd (List.find?_eq_none.1 hf e he) (by simp [h0])
    | some x =>
      have hx := List.find?_some hf
      have hxm := List.mem_of_find?_eq_some hf
      have hx0 : x.1 = [] := by simpa using hx
      rw [ha.eq hxm he (hx0.trans h0.symm)]
      rfl
  by_cases hex : ∃ e ∈ l, e.1 = []
  · obtain ⟨e, he, h0⟩ := hex
    rw [key ha e he h0, key hm e (h.mem_iff.1 he) h0]
  · have none_of : ∀ {l : List En}, (¬ ∃ e ∈ l, e.1 = []) → own l = [] := by
      intro l hn
      unfold own
      cases hf : l.find? fun e => e.1.isEmpty with
      | none => rfl
      | some x =>
        have hx := List.find?_some hf
        exact absurd ⟨x, List.mem_of_find?_eq_some hf, by simpa using hx⟩ hn
    rw [none_of hex, none_of fun ⟨e, he, h0⟩ => hex ⟨e, h.mem_iff.2 he, h0⟩]
theorem Apart.rests {n : Nat} {l : List En} (h : Apart l) (hs : Share l n) : Apart (rests n l) := by
  unfold Tr.rests Apart
  rw [List.pairwise_map]
  refine List.Pairwise.imp_of_mem (fun {a b} ha hb hab e => ?_) h
  apply hab
  rw [← List.take_append_drop n a.1, ← List.take_append_drop n b.1, (hs a ha).2 b hb]
  exact congrArg _ e
theorem heads_share {d : Nat} (l : List En) : Share (heads d l) 1 := by
  intro a ha
  have h1 : ∀ x ∈ heads d l, ∃ r, x.1 = d :: r := by
    intro x hx
    have := (List.mem_filter.1 hx).2
    cases hq : x.1 with
    | nil => simp [hq] at this
    | cons y r =>
      rw [hq] at this
      have : y = d := by simpa using this
      exact ⟨r, by rw [this]⟩
  obtain ⟨r, hr⟩ := h1 a ha
  refine ⟨by rw [hr]; simp, fun b hb => ?_⟩
  obtain ⟨s, hs⟩ := h1 b hb
  rw [hr, hs]; rfl
theorem Apart.heads {d : Nat} {l : List En} (h : Apart l) : Apart (heads d l) := h.filter _
/-- THE ORDER MAKES NO DIFFERENCE. -/
theorem nodeT_perm : ∀ (f : Nat) (l m : List En), Apart l → l.Perm m → nodeT pk H f l = nodeT pk H f m
  | 0, _, _, _, _ => rfl
  | f + 1, [], m, _, h => by rw [h.symm.eq_nil]
  | f + 1, [e], m, _, h => by rw [List.perm_singleton.1 h.symm]
  | f + 1, e :: e2 :: l, m, ha, h => by
    have hlen := h.length_eq
    match m, h, hlen with
    | x :: x2 :: m, h, _ =>
      have hc := cpAll_perm h
      unfold nodeT
      simp only [hc]
      by_cases hn : 0 < cpAll x.1 (x2 :: m)
      · rw [if_pos hn, if_pos hn]
        have hs : Share (e :: e2 :: l) (cpAll x.1 (x2 :: m)) := share_iff.1 (by rw [hc]; exact Nat.le_refl _)
        rw [nodeT_perm f _ _ (ha.rests hs) (rests_perm h), (hs e List.mem_cons_self).2 x (h.mem_iff.2 List.mem_cons_self)]
      · rw [if_neg hn, if_neg hn, own_perm ha h]
        congr 2
        apply List.map_congr_left
        intro d _
        have hp := heads_perm (d := d) h
        by_cases h0 : heads d (e :: e2 :: l) = []
        · rw [if_pos h0, if_pos (by rw [h0] at hp; exact hp.symm.eq_nil)]
        · rw [if_neg h0, if_neg (fun h1 => h0 (by rw [h1] at hp; exact hp.eq_nil)), nodeT_perm f _ _ (ha.heads.rests (heads_share _)) (rests_perm hp)]
end
end Tr
end Go.Proofs.Ytfdihphhmhgejaa

/- Tries as plain mathematics: what the program builds of sorted entries, and that its lists are the document's. No function of the program. -/
namespace Go.Proofs.Ytfdihphhmhgejaa

namespace Tr
/-- The order of paths. -/
def lt : List Nat → List Nat → Prop
  | [], [] => False
  | [], _ :: _ => True
  | _ :: _, [] => False
  | x :: a, y :: b => x < y ∨ (x = y ∧ lt a b)
theorem lt_irrefl : ∀ a : List Nat, ¬ lt a a
  | [], h => h
  | x :: a, h => by
    rcases h with h | h
    · exact absurd h (Nat.lt_irrefl _)
    · exact lt_irrefl a h.2
theorem lt_ne {a b : List Nat} (h : lt a b) : a ≠ b := fun e => lt_irrefl a (by rw [← e] at h; exact h)
def Sorted (l : List En) : Prop := l.Pairwise fun a b => lt a.1 b.1
theorem Sorted.apart {l : List En} (h : Sorted l) : Apart l := h.imp lt_ne
theorem between : ∀ (n : Nat) (a x b : List Nat), lt a x → lt x b → n ≤ cp a b → n ≤ x.length ∧ a.take n = x.take n
  | 0, _, _, _, _, _, _ => by simp
  | n + 1, [], x, b, _, _, h => by simp [cp] at h
  | n + 1, s :: a, x, [], _, _, h => by simp [cp] at h
  | n + 1, s :: a, [], t :: b, h1, _, _ => h1.elim
  | n + 1, s :: a, y :: x, t :: b, h1, h2, h => by
    unfold cp at h
    by_cases hst : s = t
    · subst hst
      rw [if_pos rfl, Nat.add_le_add_iff_right] at h
      have hsy : s = y := by
        rcases h1 with h1 | h1
        · rcases h2 with h2 | h2 <;> omega
        · exact h1.1
      subst hsy
      have h1' : lt a x := by rcases h1 with h1 | h1; exact absurd h1 (Nat.lt_irrefl _); exact h1.2
      have h2' : lt x b := by rcases h2 with h2 | h2; exact absurd h2 (Nat.lt_irrefl _); exact h2.2
      obtain ⟨h3, h4⟩ := between n a x b h1' h2' h
      exact ⟨by simpa using h3, by simp [h4]⟩
    · rw [if_neg hst] at h; omega
/-- The first path and the last have in common what all have. -/
theorem cp_ends {e z : En} {l : List En} (h : Sorted (e :: (l ++ [z]))) : cp e.1 z.1 = cpAll e.1 (l ++ [z]) := by
  obtain ⟨h1, h2⟩ := List.pairwise_cons.1 h
  have h3 := (List.pairwise_append.1 h2).2.2
  apply Nat.le_antisymm
  · rw [le_cpAll]
    have hz := le_cp.1 (Nat.le_refl (cp e.1 z.1))
    refine ⟨hz.1, fun x hx => ?_⟩
    rcases List.mem_append.1 hx with hx | hx
    · exact between _ e.1 x.1 z.1 (h1 x (List.mem_append_left _ hx)) (h3 x hx z (by simp)) (Nat.le_refl _)
    · rw [List.mem_singleton.1 hx]; exact hz.2
  · have := (le_cpAll.1 (Nat.le_refl (cpAll e.1 (l ++ [z]))))
    exact le_cp.2 ⟨this.1, this.2 z (by simp)⟩
theorem Sorted.rests {n : Nat} : ∀ {l : List En}, Sorted l → Share l n → Sorted (rests n l)
  | l, h, hs => by
    unfold Tr.rests Sorted
    rw [List.pairwise_map]
    refine List.Pairwise.imp_of_mem (fun {a b} ha hb hab => ?_) h
    have key : ∀ (n : Nat) (p q : List Nat), n ≤ p.length → p.take n = q.take n → n ≤ q.length → lt p q → lt (p.drop n) (q.drop n) := by
      intro n
      induction n with
      | zero => intro p q _ _ _ h; simpa using h
      | succ n ih =>
        intro p q h1 h2 h3 h4
        match p, q, h1, h2, h3, h4 with
        | x :: p, y :: q, h1, h2, h3, h4 =>
          simp only [List.take_succ_cons, List.cons.injEq] at h2
          obtain ⟨rfl, h2⟩ := h2
          have h4' : lt p q := by rcases h4 with h4 | h4; exact absurd h4 (Nat.lt_irrefl _); exact h4.2
          simpa using ih p q (by simpa using h1) h2 (by simpa using h3) h4'
    exact key n a.1 b.1 (hs a ha).1 ((hs a ha).2 b hb) (hs b hb).1 hab
theorem Sorted.heads {d : Nat} {l : List En} (h : Sorted l) : Sorted (heads d l) := h.filter _
/-- A sorted list: those that begin with d stand together, behind those that begin with less. -/
theorem heads_while (d : Nat) : ∀ (l : List En), Sorted l → (∀ e ∈ l, ∃ x r, e.1 = x :: r ∧ d ≤ x) →
    l.takeWhile (fun e => e.1.head? == some d) = heads d l ∧ l.dropWhile (fun e => e.1.head? == some d) = l.filter (fun e => !(e.1.head? == some d)) ∧ ∀ e ∈ l.dropWhile (fun e => e.1.head? == some d), ∃ x r, e.1 = x :: r ∧ d + 1 ≤ x
  | [], _, _ => by simp [Tr.heads]
  | e :: l, hs, hd => by
    obtain ⟨h1, h2⟩ := List.pairwise_cons.1 hs
    obtain ⟨x, r, hx, hxd⟩ := hd e List.mem_cons_self
    have ih := heads_while d l h2 (fun e he => hd e (List.mem_cons_of_mem _ he))
    unfold Tr.heads at ih ⊢
    by_cases hq : x = d
    · subst hq
      have ht : (e.1.head? == some x) = true := by rw [hx]; simp
      simp only [List.takeWhile_cons, List.dropWhile_cons, List.filter_cons, ht, if_true, Bool.not_true, Bool.false_eq_true, if_false]
      exact ⟨by rw [ih.1], ih.2.1, ih.2.2⟩
    · have hf : (e.1.head? == some d) = false := by rw [hx]; simp [hq]
      have hall : ∀ y ∈ l, ∃ z s, y.1 = z :: s ∧ d + 1 ≤ z := by
        intro y hy
        obtain ⟨z, s, hz, hzd⟩ := hd y (List.mem_cons_of_mem _ hy)
        have := h1 y hy
        rw [hx, hz] at this
        refine ⟨z, s, hz, ?_⟩
        rcases this with h | h <;> omega
      have hnone : l.filter (fun e => e.1.head? == some d) = [] := by
        rw [List.filter_eq_nil_iff]
        intro y hy
        obtain ⟨z, s, hz, hzd⟩ := hall y hy
        rw [hz]; simp; omega
      have hkeep : l.filter (fun e => !(e.1.head? == some d)) = l := by
        rw [List.filter_eq_self]
        intro y hy
        obtain ⟨z, s, hz, hzd⟩ := hall y hy
        rw [hz]; simp; omega
      simp only [List.takeWhile_cons, List.dropWhile_cons, List.filter_cons, hf, Bool.false_eq_true, if_false, Bool.not_false, if_true]
      refine ⟨hnone.symm, by rw [hkeep], fun y hy => ?_⟩
      rcases List.mem_cons.1 hy with h | h
      · subst h; exact ⟨x, r, hx, by omega⟩
      · exact hall y h
theorem own_first {e : En} {l : List En} (h : Sorted (e :: l)) : own (e :: l) = if e.1 = [] then e.2 else [] := by
  obtain ⟨h1, _⟩ := List.pairwise_cons.1 h
  unfold own
  by_cases h0 : e.1 = []
  · rw [if_pos h0, List.find?_cons, h0]; rfl
  · rw [if_neg h0, List.find?_cons]
    have : e.1.isEmpty = false := by simp [h0]
    rw [this]
    have hn : l.find? (fun e => e.1.isEmpty) = none := by
      rw [List.find?_eq_none]
      intro y hy
      have := h1 y hy
      cases hq : y.1 with
      | nil =>
        rw [hq] at this
        cases he : e.1 with
        | nil => exact absurd he h0
        | cons x r => rw [he] at this; exact this.elim
      | cons z s => simp
    simp [hn]
end Tr
end Go.Proofs.Ytfdihphhmhgejaa
