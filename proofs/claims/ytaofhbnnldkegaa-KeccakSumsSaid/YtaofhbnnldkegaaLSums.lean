/- KeccakSums: for any parts; parts among the arguments. -/
import Derived.Test.YtaofhbnnldkegaaK22
import Derived.Test.YtaofhbnnldkegaaB3
namespace Go.Proofs.Ytaofhbnnldkegaa
open Go.ChangeShapes Go.WideShapes Go.ChangeAt Go.RowKit

theorem parts_ty : Try.prog.underlying 22 = some (.slice 24) := by kernel_rfl
theorem part_cells : Try.prog.cellsOf 24 = 1 := by kernel_rfl

section
variable {H : Type} {enc' : TypeId × Value → H} {w : World}
theorem cells_one {w : World} {base : Nat} {a : Addr} {v : Value} (h : w.cells? base a 1 = some [v]) : w.cell? a = some v := by
  have hh := (World.cells?_some h).2.2
  have h0 := hh 0 (by omega)
  simpa [Addr.add] using h0
theorem open_parts {r : Reach} {b0 : Nat} {v : Value} {d : DataW H} {p : List MemPlace} (hv : Value.okWide Try.prog w r b0 22 v) (h : DataW.Trod enc' Try.prog w 0 (fun _ => true) true 22 v d p) :
    (∀ n ∈ d.weights Try.prog 22, n ≤ reachBytes) → ∃ pp n cc LS, v = .slice pp n cc ∧ PartsAt w pp n LS := by
  intro hw2
  obtain ⟨a0, len0, cap0, rfl⟩ := okWide_slice parts_ty hv
  obtain ⟨fuel, hf⟩ := h
  rcases DataW.trod_slice parts_ty hf with ⟨hcs, _⟩ | ⟨a, len, cap, elems, rest, m, rfl, hcs, hx2, _, hlc, hcm, hlen, hget, _, _⟩
  · have : Value.slice a0 len0 cap0 = .slice none 0 0 := by simpa [Value.cells] using hcs
    rw [this]
    exact ⟨none, 0, 0, fun _ => [], rfl, fun h => by omega⟩
  · have : Value.slice a0 len0 cap0 = .slice (some a) len cap := by simpa [Value.cells] using hcs
    rw [this]
    rw [part_cells] at hget
    have hx2' : d = _ := congrArg Prod.fst hx2
    rw [hx2'] at hw2
    simp only [DataW.weights, parts_ty] at hw2
    have key : ∀ i, i < len → ∃ y L, w.cell? (a.add (i * 1)) = some y ∧ RdA [] w y L := by
      intro i hi
      have e := hget i hi
      rw [List.getElem?_eq_getElem (by omega)] at e
      obtain ⟨cs', hc, ht⟩ := Option.bind_eq_some_iff.1 e
      have hw3 : ∀ n ∈ (elems[i]'(by omega)).1.weights Try.prog 24, n ≤ reachBytes := fun n hn => hw2 n (List.mem_cons_of_mem _ (List.mem_append_left _ (weights_mem_all (List.mem_map_of_mem (List.getElem_mem _)) n hn)))
      obtain ⟨y, L, rfl, hL, _⟩ := bytes_trod ht hw3
      exact ⟨y, L, cells_one hc, hL⟩
    refine ⟨some a, len, cap, fun i => if h : i < len then (key i h).choose_spec.choose else [], rfl, fun hpos => ?_⟩
    obtain ⟨b, off, spot⟩ := a
    have hspot : spot = none := by
      obtain ⟨y, L, h1, _⟩ := key 0 hpos
      simpa [Addr.add] using World.cell?_spot h1
    subst hspot
    have hadd : ∀ j, (⟨b, off, none⟩ : Addr).add (j * 1) = ⟨b, off + j, none⟩ := fun j => by rw [Nat.mul_one]; unfold Addr.add; split <;> simp_all
    refine ⟨b, off, rfl, ?_, fun i hi => ?_⟩
    · obtain ⟨y, L, h1, _⟩ := key 0 hpos
      rw [hadd] at h1
      exact World.block_lt_of_cell? w _ h1
    · have h1 := (key i hi).choose_spec.choose_spec
      have hto : ∀ y, w.cell? ((⟨b, off, none⟩ : Addr).add (i * 1)) = some y → w.cell? ⟨b, off + i, none⟩ = some y := fun y h => by rw [← hadd]; exact h
      refine ⟨_, hto _ h1.1, ?_⟩
      simp only [hi, dif_pos]
      exact h1.2
end
namespace Sums
theorem walk (v0 : Value) (pp : Option Addr) (n cc : Nat) (LS : Nat → List Nat) (W : World) (e0 : v0 = .slice pp n cc) (l0 : PartsAt W pp n LS) :
    Calls Try.prog 3 #[v0] W fun e w' => e = .returned (.bool true) ∧ Tch [] W w' := by subst e0; exact sums_any pp n cc LS W l0
end Sums
end Go.Proofs.Ytaofhbnnldkegaa
