/- The document's Text. -/
import Derived.Test.YtjbjjiibldlipaaH7
import Derived.Lib.SlBytesConst
import Derived.Deep.RegionLawGrows
import Derived.Deep.AppendLies
namespace Go.Proofs.Ytjbjjiibldlipaa
open Go.RowKit

theorem byteCells_get (l : List UInt8) (j : Nat) (h : j < l.length) : (Lib.byteCells l)[j]? = some (.int .u8 ((l[j]).toNat : Int)) := by simp [Lib.byteCells, h]
theorem conv_own {w : World} {B : Nat} {v : Value} {l : List UInt8} (h : w.ownsRow B 5 1 v l.length (Lib.byteCells l)) : (convert 22 9 v).run Try.prog w = .ok (.string ⟨l.toArray⟩) w := by
  obtain ⟨_, h2⟩ := h
  rcases h2 with ⟨rfl, h0⟩ | ⟨g, cap, cur, rfl, _, hb, _, _, _, htk⟩
  · have : l = [] := List.length_eq_zero_iff.1 h0
    subst this
    rw [run_convert_bytes_string w 22 9 5 none _ 0 bytes_ty byte_ty string_ty]; rfl
  · refine run_convert_bytes_back (P := Try.prog) w 22 9 5 ⟨g, 0, none⟩ cap l bytes_ty byte_ty string_ty (fun j hj => ?_)
    have hadd : (⟨g, 0, none⟩ : Addr).add j = ⟨g, j, none⟩ := by unfold Addr.add; split <;> simp_all
    have hB : Blk w g 5 cur → w.cell? ⟨g, j, none⟩ = cur[j]? := fun _ => by rw [Lib.cell_of_heap hb]
    rw [hadd, Lib.cell_of_heap hb]
    have e := congrArg (fun x => x[j]?) htk
    simp only [Nat.mul_one, List.getElem?_take, hj, if_true, byteCells_get l j hj] at e
    simpa using e
/-- What the document's Text has made so far. -/
def TxtAt (B k : Nat) (L : List Nat) (o : Value) (w : World) : Prop :=
  (k = 0 ∧ o = .slice (some ⟨B, 0, none⟩) 2 2 ∧ w.heap[B]? = some (.cells #[.int .u8 48, .int .u8 120] 5 (2, 3))) ∨ (0 < k ∧ w.ownsRow B 5 1 o (2 + 2 * k) (Lib.byteCells (txt (L.take k))))
theorem ownsRow_mono {w : World} {B B' n : Nat} {e : TypeId} {size : Nat} {v : Value} {xs : List Value} (h : w.ownsRow B' e size v n xs) (hB : B ≤ B') : w.ownsRow B e size v n xs := by
  refine ⟨h.1, ?_⟩
  rcases h.2 with h0 | ⟨g, cap, cur, hv, hg, rest⟩
  · exact .inl h0
  · exact .inr ⟨g, cap, cur, hv, by omega, rest⟩
theorem TxtAt.conv {B : Nat} {L : List Nat} {o : Value} {w : World} (h : TxtAt B L.length L o w) : (convert 22 9 o).run Try.prog w = .ok (.string ⟨(txt L).toArray⟩) w := by
  rcases h with ⟨h0, rfl, hb⟩ | ⟨_, hown⟩
  · have : L = [] := List.length_eq_zero_iff.1 h0
    subst this
    exact run_convert_bytes_back (P := Try.prog) w 22 9 5 ⟨B, 0, none⟩ 2 [48, 120] bytes_ty byte_ty string_ty (fun j hj => by
      have hadd : (⟨B, 0, none⟩ : Addr).add j = ⟨B, j, none⟩ := by unfold Addr.add; split <;> simp_all
      rw [hadd, Lib.cell_of_heap hb]
      match j, hj with
      | 0, _ => rfl
      | 1, _ => rfl)
  · rw [List.take_length] at hown
    rw [show 2 + 2 * L.length = (txt L).length from (txt_length L).symm] at hown
    exact conv_own hown
theorem old_cells {w : World} {B : Nat} (hrow : w.heap[B]? = some (.cells #[.int .u8 48, .int .u8 120] 5 (2, 3))) (hlt : B < w.heap.size) {o : Obj} (j : Nat) (u : Value) (hu : ([.int .u8 48, .int .u8 120] : List Value)[j]? = some u) : (w.alloc o).drew.cell? ((⟨B, 0, none⟩ : Addr).add j) = some u := by
  have hadd : (⟨B, 0, none⟩ : Addr).add j = ⟨B, j, none⟩ := by unfold Addr.add; split <;> simp_all
  have h2 : (w.alloc o).drew.heap[B]? = some (.cells #[.int .u8 48, .int .u8 120] 5 (2, 3)) := (Below.heap_alloc w _ B hlt).trans hrow
  rw [hadd, Lib.cell_of_heap h2]
  simpa using hu
theorem and_low (x : Nat) (h : x < 256) : bits BinOp.and IntKind.u8 (x : Int) 15 = ((x % 16 : Nat) : Int) := by
  have all : ∀ a : Fin 256, bits BinOp.and IntKind.u8 (a.val : Int) 15 = ((a.val % 16 : Nat) : Int) := by decide +kernel
  exact all ⟨x, h⟩
set_option maxHeartbeats 4000000 in
set_option maxRecDepth 100000 in
theorem refText_any (v : Value) (L : List Nat) (w : World) (hm : L.length ≤ 1000000) (hv : RdB w v L) :
    Calls Try.prog 20 #[v] w fun e w' => e = .returned (.string ⟨(txt L).toArray⟩) ∧ Tch [] w w' := by
  obtain ⟨i0, hi, hz0, hz1, hz2⟩ := info_parts A_info
  obtain ⟨p, c, rfl, hc, hL, hcell⟩ := hv
  have HC := Lib.hid (And.intro hL hcell)
  have kc := fun (w : World) (C : Array Value) (n c : Nat) => Lib.run_convert_bytes_const (P := Try.prog) w 22 5 C n c bytes_ty byte_ty
  clear hL hcell
  go_enter Try.func20, Try.ntmps20
  go_wp2
  clear kc
  go_loopw [3, 4] (fun o i wr => ∃ k : Nat, k ≤ L.length ∧ i = .int .i64 (k : Int) ∧ TxtAt w.heap.size k L o wr ∧ Below w.heap.size w wr) (fun _ i _ => L.length - (intOf i).toNat)
  case atStart => exact ⟨0, by omega, rfl, .inl ⟨rfl, rfl, Go.heap_alloc_new w _⟩, (Below.refl _ _).alloc (Nat.le_refl _) _⟩
  case round =>
    obtain ⟨k, hk, rfl, hown, hb⟩ := hrel
    by_cases hlt : k < L.length
    · obtain ⟨pb, o, rfl, hpb, hcells⟩ := HC.out.2 (by intro h; rw [h] at hlt; simp at hlt)
      have hcell : wr.cell? ⟨pb, o + k, none⟩ = some (.int .u8 ((L.getD k 0 : Nat) : Int)) := (hb.cell (p := ⟨pb, o + k, none⟩) hpb).trans (hcells k hlt)
      have hx := getD_lt HC.out.1 k
      have hpr := hb.size
      have hts := Lib.hid (txt_snoc (L.take k) (L.getD k 0))
      have hts2 := Lib.hid (take_snoc L k hlt)
      clear hcells
      generalize L.getD k 0 = x at *
      have h16 : x / 16 < 16 := by omega
      have h16b : x % 16 < 16 := by omega
      have hd1 := digit_at (x / 16) h16
      have hd2 := digit_at (x % 16) h16b
      have hki : (k : Int) < (L.length : Int) := by omega
      have hki0 : (0 : Int) ≤ (k : Int) := by omega
      have hand := and_low x hx
      have hm0 : (0 : Int) ≤ ((x % 16 : Nat) : Int) := by omega
      have hm1 : ((x % 16 : Nat) : Int) < 16 := by omega
      have hn1 : ((x : Int) / 16).toNat = x / 16 := by omega
      have hn2 : ((x : Int) % 16).toNat = x % 16 := by omega
      clear hx
      rcases hown with ⟨hk00, rfl, hrow⟩ | ⟨hk0, hown⟩
      · have hne : w.heap.size ≠ pb := by omega
        have HK0 := Lib.hid hk00
        clear hk00
        have hlen : w.heap.size < wr.heap.size := (Array.getElem?_eq_some_iff.1 hrow).1
        go_wp2
        go_region_held3 (fun w' => w'.cell? ⟨pb, o + k, none⟩ = some (.int .u8 (x : Int)))
          (first
            | go_keep
            | (go_split_ands
               (rw [hgrow.cell_far _ (by simp; omega) (by simp)]; assumption)))
          ((refine step_append_grows (by rfl) _ _ _ (by rfl) 5 i0 _ 1 1 bytes_ty hi hz0 hz1 hz2 rfl (by omega) (some ⟨w.heap.size, 0, none⟩) 2 2 [.int .u8 48, .int .u8 120] (by rfl) (by intro h; cases h) (by rfl) (fun b hb j u hu => by cases hb; exact old_cells hrow hlen j u hu) ⟨wr.heap.size, 0, none⟩ 2 2 [.int .u8 ((hch (x / 16)).toNat : Int), .int .u8 ((hch (x % 16)).toNat : Int)] (by rfl) (by rfl) (World.news_of_block (cs := #[.int .u8 ((hch (x / 16)).toNat : Int), .int .u8 ((hch (x % 16)).toNat : Int)]) (t := 5) (fr := (0, 0)) (heap_alloc_new wr (.cells #[.int .u8 ((hch (x / 16)).toNat : Int), .int .u8 ((hch (x % 16)).toNat : Int)] 5))) (by simp [Value.oneCell']) (by omega) (by unfold maxLen; omega) (by omega) ?_; intro v1 w1 hown1 hgrow))
        all_goals
          have hnew : TxtAt w.heap.size (k + 1) L v1 w1 := .inr ⟨by omega, by
            rw [hts2.out, hts.out]
            have h0 := HK0.out
            subst h0
            rw [List.append_assoc]
            exact ownsRow_mono hown1 (by simp; omega)⟩
          have hb2 : Below w.heap.size w w1 := ((hb.alloc hb.size _).drew).grown hgrow (by simp; omega) (fun g hg => by cases hg)
          clear hown1 hgrow hcell hd1 hd2 hand hm0 hm1 hn1 hn2 hrow
          go_wp2
          go_roundw
          case rel => exact ⟨k + 1, by omega, by go_num, hnew, hb2⟩
          case measure => simp [intOf]; omega
      · have hne : u3.ownBlock ≠ some pb := fun e => by have := (hown.lt pb e).1; omega
        go_wp2
        go_region_held3 (fun w' => w'.cell? ⟨pb, o + k, none⟩ = some (.int .u8 (x : Int)))
          (first
            | go_keep
            | (go_split_ands
               (rw [hgrow.cell_far _ (by simp; omega) (Ne.symm hne)]; assumption)))
          ((refine step_append_lies _ (by rfl) _ _ _ (by rfl) w.heap.size 5 i0 _ 1 1 bytes_ty hi hz0 hz1 hz2 rfl (by omega) u3 (2 + 2 * k) _ (by rfl) ((hown.alloc _).drew) ⟨wr.heap.size, 0, none⟩ 2 2 [.int .u8 ((hch (x / 16)).toNat : Int), .int .u8 ((hch (x % 16)).toNat : Int)] (by rfl) (by rfl) (World.news_of_block (cs := #[.int .u8 ((hch (x / 16)).toNat : Int), .int .u8 ((hch (x % 16)).toNat : Int)]) (t := 5) (fr := (0, 0)) (heap_alloc_new wr (.cells #[.int .u8 ((hch (x / 16)).toNat : Int), .int .u8 ((hch (x % 16)).toNat : Int)] 5))) (by simp [Value.oneCell']) (by omega) (by unfold maxLen; omega) (by omega) (by simp; omega) (wr.heap.size + 1) (by simp) ?_; intro gg cap w1 hown1 hgrow hat hlt1))
        all_goals
          have hnew : TxtAt w.heap.size (k + 1) L (.slice (some ⟨gg, 0, none⟩) (2 + 2 * k + 2) cap) w1 := .inr ⟨by omega, by rw [hts2.out, hts.out, List.append_assoc]; exact hown1⟩
          have hb2 : Below w.heap.size w w1 := ((hb.alloc hb.size _).drew).grown hgrow (by simp; omega) (fun g hg => (hown.lt g hg).1)
          clear hown1 hgrow hat hlt1 hcell hd1 hd2 hand hm0 hm1 hn1 hn2
          go_wp2
          go_roundw
          case rel => exact ⟨k + 1, by omega, by go_num, hnew, hb2⟩
          case measure => simp [intOf]; omega
    · obtain rfl : k = L.length := by omega
      have hcv := hown.conv
      go_wp2
      go_ret
      exact ⟨rfl, Tch.of_below hb⟩
end Go.Proofs.Ytjbjjiibldlipaa
