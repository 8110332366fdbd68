/-
  Rows of an argument, cell by cell: flat_len, flat_get, shows_rows.
-/
import Derived.Test.YthoenmggjbojoaaFr
import Derived.Deep.Slices
import Derived.Deep.Fields
import Derived.ChangeSame
import Derived.Lib.SmallJoins
namespace Go.Proofs.Ythoenmggjbojoaa
open Go.ChangeShapes Go.WideShapes Go.ChangeAt Go.RowKit Go.Deep
set_option linter.unusedVariables false

theorem flat_len {α : Type} (f : α → List Value) (k : Nat) (hf : ∀ x, (f x).length = k) : ∀ l : List α, (l.flatMap f).length = l.length * k
  | [] => by simp
  | x :: l => by rw [List.flatMap_cons, List.length_append, flat_len f k hf l, hf, List.length_cons, Nat.add_mul]; omega
theorem flat_get {α : Type} (f : α → List Value) (k : Nat) (hf : ∀ x, (f x).length = k) : ∀ (l : List α) (i j : Nat) (hi : i < l.length) (_ : j < k), (l.flatMap f)[i * k + j]? = (f (l[i]'hi))[j]?
  | x :: l, 0, j, _, hj => by
    rw [List.flatMap_cons, List.getElem?_append_left (by rw [hf]; omega)]
    simp
  | x :: l, i + 1, j, hi, hj => by
    have e : (i + 1) * k + j = (f x).length + (i * k + j) := by rw [hf, Nat.add_mul]; omega
    rw [List.flatMap_cons, e, List.getElem?_append_right (by omega), Nat.add_sub_cancel_left, flat_get f k hf l i j (by simpa using hi) hj]
    simp
/-- Rows of cells that are known one by one. -/
theorem shows_rows {α : Type} (f : α → List Value) (k : Nat) (hk : 0 < k) (hf : ∀ x, (f x).length = k) {w : World} {a : Addr} {n : Nat} (F : Nat → α) (h : ∀ i, i < n → ∀ j u, (f (F i))[j]? = some u → w.cell? (a.add (i * k + j)) = some u) :
    Shows w w.heap.size k (some a) n (((List.range n).map F).flatMap f) := by
  have hl : ((List.range n).map F).length = n := by simp
  refine ⟨by rw [flat_len f k hf, hl], fun hn => ?_⟩
  obtain ⟨b, off, spot⟩ := a
  have h00 : 0 < (f (F 0)).length := by rw [hf]; exact hk
  have hc0 := h 0 hn 0 _ (List.getElem?_eq_getElem h00)
  have hspot : spot = none := by simpa [Addr.add] using World.cell?_spot hc0
  subst hspot
  have hlt : b < w.heap.size := World.block_lt_of_cell? w _ (by simpa [Addr.add] using hc0)
  refine ⟨b, off, rfl, hlt, fun j u hu => ?_⟩
  have hj : j < (((List.range n).map F).flatMap f).length := (List.getElem?_eq_some_iff.1 hu).1
  rw [flat_len f k hf, hl] at hj
  have hd : j / k < n := Nat.div_lt_of_lt_mul (by rw [Nat.mul_comm]; exact hj)
  have hm : j % k < k := Nat.mod_lt _ hk
  have he : j = j / k * k + j % k := by rw [Nat.mul_comm]; exact (Nat.div_add_mod j k).symm
  rw [he, flat_get f k hf _ _ _ (by rw [hl]; exact hd) hm] at hu
  simp only [List.getElem_map, List.getElem_range] at hu
  have := h (j / k) hd (j % k) u hu
  rw [addr_add, ← he] at this
  exact this

end Go.Proofs.Ythoenmggjbojoaa
