/-
  A slice of whole numbers among the arguments: what it shows. No program in sight.
-/
import Derived.Test.YtialgpkighjffaaDoorInts
import Derived.Test.YtialgpkighjffaaDoorFr
namespace Go.Proofs.YtialgpkighjffaaDoor
open Go.ChangeShapes Go.WideShapes Go.ChangeAt Go.RowKit

theorem came_ints {H : Type} {enc : TypeId × Value → H} {P : Program} {w : World} {base : Nat} {spare : Nat → Bool} {held : Bool} {t e : TypeId} {d : DataW H} {p : List MemPlace} {k : IntKind} {A : Option Addr} {n c : Nat}
    (ht : P.underlying t = some (.slice e)) (he : P.underlying e = some (.int k)) (hC : P.cellsOf e = 1) (h : DataW.Trod enc P w base spare held t (.slice A n c) d p) :
    ∃ l : List Int, Shows w w.heap.size 1 A n (l.map (.int k)) ∧ (∀ z ∈ l, (Lit.int k z).wf = true) ∧ (A = none → c = 0) ∧ n ≤ c ∧ c ≤ maxLen := by
  obtain ⟨fuel, hf⟩ := h
  rcases open_ints ht he hC hf with ⟨hcs, _⟩ | ⟨x, l, c', zs, hcs, _, hl, hm, hz, _, hcell, hwz⟩
  · simp [Value.cells] at hcs
    obtain ⟨rfl, rfl, rfl⟩ := hcs
    exact ⟨[], Shows.zero _, by simp, fun _ => rfl, Nat.le_refl _, by unfold maxLen; omega⟩
  · simp [Value.cells] at hcs
    obtain ⟨rfl, rfl, rfl⟩ := hcs
    have hz' : n ≤ zs.length := by
      have hz2 : zs.length = if spare x.block = true then c else n := by simpa using hz
      rw [hz2]
      split <;> omega
    refine ⟨zs.take n, ⟨by simp; omega, fun hn0 => ?_⟩, fun z hz => hwz z (List.mem_of_mem_take hz), nofun, hl, hm⟩
    obtain ⟨b, off, spot⟩ := x
    have hc0 := hcell 0 (by omega)
    have hspot : spot = none := by simpa [Addr.add] using World.cell?_spot hc0
    subst hspot
    have hlt : b < w.heap.size := World.block_lt_of_cell? w _ (by simpa [Addr.add] using hc0)
    refine ⟨b, off, rfl, hlt, fun j u hu => ?_⟩
    rw [List.getElem?_map, List.getElem?_take] at hu
    split at hu
    · obtain ⟨z, hz1, rfl⟩ := Option.map_eq_some_iff.1 hu
      have hj : j < zs.length := (List.getElem?_eq_some_iff.1 hz1).1
      have hcj := hcell j hj
      rw [addr_add] at hcj
      rw [hcj, List.getD_eq_getElem?_getD, hz1]
      rfl
    · cases hu
end Go.Proofs.YtialgpkighjffaaDoor
