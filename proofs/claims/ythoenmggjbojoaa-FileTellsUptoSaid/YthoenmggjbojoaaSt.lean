/-
  Cells of new blocks in later worlds; the steps of 'nothing below has turned'. No program in sight.
-/
import Derived.Test.YthoenmggjbojoaaW
namespace Go.Proofs.Ythoenmggjbojoaa
open Go.RowKit
theorem new_later {w w1 : World} {C : Array Value} {t : TypeId} (hb : Below (w.alloc (.cells C t)).heap.size (w.alloc (.cells C t)) w1) (k : Nat) {v : Value} (hk : C[k]? = some v) : w1.cell? ⟨w.heap.size, k, none⟩ = some v :=
  (hb.cell (p := ⟨w.heap.size, k, none⟩) (by simp)).trans ((World.cell?_alloc_new w C t k).trans hk)
theorem kept_later {w w1 : World} (hb : Below w.heap.size w w1) {p : Addr} {v : Value} (h : w.cell? p = some v) : w1.cell? p = some v :=
  (hb.cell (p := p) (World.block_lt_of_cell? w _ h)).trans h
theorem froz_later {w w1 : World} (hb : Below w.heap.size w w1) {p : Addr} {v : Value} (h : w.cell? p = some v) {b : Bool} (hf : w.frozen? p = b) : w1.frozen? p = b :=
  (hb.frozen (World.block_lt_of_cell? w _ h)).trans hf
theorem S_call {W0 w1 w2 : World} {B : Nat} (hb : Below B w1 w2) (h : Below W0.heap.size W0 w1) (hB : B = w1.heap.size) : Below W0.heap.size W0 w2 := h.trans (hb.mono (by rw [hB]; exact h.size))
theorem S_alloc {W0 w1 : World} {o : Obj} (h : Below W0.heap.size W0 w1) : Below W0.heap.size W0 (w1.alloc o) := h.alloc h.size _
theorem bel_next {a b c : World} (h : Below a.heap.size a b) (k : Below b.heap.size b c) : Below a.heap.size a c := h.trans (k.mono h.size)
theorem bel_alloc {a b : World} (h : Below a.heap.size a b) (o : Obj) : Below a.heap.size a (b.alloc o) := h.alloc h.size o

/-- Block b holds these cells, and they may be written. -/
def Box (W : World) (b : Nat) (C : List Value) : Prop := ∀ k v, C[k]? = some v → W.cell? ⟨b, k, none⟩ = some v ∧ W.frozen? ⟨b, k, none⟩ = false
theorem Box.new (w : World) (C : Array Value) (t : TypeId) : Box (w.alloc (.cells C t)) w.heap.size C.toList := fun k v h => by
  refine ⟨(World.cell?_alloc_new w C t k).trans (by simpa using h), ?_⟩
  go_simp
theorem Box.new' (w : World) (C : Array Value) (t : TypeId) {b : Nat} (hb : b = w.heap.size) : Box (w.alloc (.cells C t)) b C.toList := by subst hb; exact Box.new w C t
theorem Box.later {W W' : World} {b : Nat} {C : List Value} (h : Box W b C) (hb : Below W.heap.size W W') : Box W' b C := fun k v hk =>
  ⟨kept_later hb (h k v hk).1, froz_later hb (h k v hk).1 (h k v hk).2⟩
theorem Box.alloc {W : World} {b : Nat} {C : List Value} (h : Box W b C) (o : Obj) : Box (W.alloc o) b C := h.later ((Below.refl _ _).alloc (Nat.le_refl _) o)
theorem Box.drewN {W : World} {b : Nat} {C : List Value} (h : Box W b C) (n : Nat) : Box (W.drewN n) b C := h
theorem Box.lt {W : World} {b : Nat} {C : List Value} (h : Box W b C) (hC : 0 < C.length) : b < W.heap.size :=
  World.block_lt_of_cell? W _ (h 0 (C[0]) (List.getElem?_eq_getElem hC)).1
/-- A store into another block. -/
theorem Box.setCell {W : World} {b : Nat} {C : List Value} (h : Box W b C) {p : Addr} (hp : p.block ≠ b) (u : Value) : Box (W.setCell p u) b C := fun k v hk =>
  ⟨(World.cell?_setCell_other W p ⟨b, k, none⟩ u (fun e => hp (by rw [e]))).trans (h k v hk).1, by rw [World.frozen?_setCell]; exact (h k v hk).2⟩
/-- Four stores, cell by cell. -/
def set4 (W : World) (b : Nat) (x0 x1 x2 x3 : Value) : World := (((W.setCell ⟨b, 0, none⟩ x0).setCell ⟨b, 1, none⟩ x1).setCell ⟨b, 2, none⟩ x2).setCell ⟨b, 3, none⟩ x3
theorem Box.set4 {W : World} {b : Nat} {y0 y1 y2 y3 : Value} (h : Box W b [y0, y1, y2, y3]) (x0 x1 x2 x3 : Value) : Box (set4 W b x0 x1 x2 x3) b [x0, x1, x2, x3] := by
  have h0 := h 0 _ rfl
  have h1 := h 1 _ rfl
  have h2 := h 2 _ rfl
  have h3 := h 3 _ rfl
  have ne : ∀ i j : Nat, i ≠ j → (⟨b, i, none⟩ : Addr) ≠ ⟨b, j, none⟩ := fun i j e h => e (by injection h)
  intro k v hk
  unfold Proofs.Ythoenmggjbojoaa.set4
  simp only [World.frozen?_setCell]
  match k, hk with
  | 0, hk =>
    cases hk
    refine ⟨?_, h0.2⟩
    rw [World.cell?_setCell_other _ _ _ _ (ne _ _ (by omega)), World.cell?_setCell_other _ _ _ _ (ne _ _ (by omega)), World.cell?_setCell_other _ _ _ _ (ne _ _ (by omega))]
    exact cell_set h0.1 _
  | 1, hk =>
    cases hk
    refine ⟨?_, h1.2⟩
    rw [World.cell?_setCell_other _ _ _ _ (ne _ _ (by omega)), World.cell?_setCell_other _ _ _ _ (ne _ _ (by omega))]
    exact cell_set ((World.cell?_setCell_other _ _ _ _ (ne _ _ (by omega))).trans h1.1) _
  | 2, hk =>
    cases hk
    refine ⟨?_, h2.2⟩
    rw [World.cell?_setCell_other _ _ _ _ (ne _ _ (by omega))]
    exact cell_set ((World.cell?_setCell_other _ _ _ _ (ne _ _ (by omega))).trans ((World.cell?_setCell_other _ _ _ _ (ne _ _ (by omega))).trans h2.1)) _
  | 3, hk =>
    cases hk
    refine ⟨?_, h3.2⟩
    exact cell_set ((World.cell?_setCell_other _ _ _ _ (ne _ _ (by omega))).trans ((World.cell?_setCell_other _ _ _ _ (ne _ _ (by omega))).trans ((World.cell?_setCell_other _ _ _ _ (ne _ _ (by omega))).trans h3.1))) _
theorem Box.far4 {W : World} {b g : Nat} {C : List Value} (h : Box W b C) (x0 x1 x2 x3 : Value) (hg : g ≠ b) : Box (Proofs.Ythoenmggjbojoaa.set4 W g x0 x1 x2 x3) b C :=
  (((h.setCell (p := ⟨g, 0, none⟩) hg x0).setCell (p := ⟨g, 1, none⟩) hg x1).setCell (p := ⟨g, 2, none⟩) hg x2).setCell (p := ⟨g, 3, none⟩) hg x3
theorem below_set4 {a W : World} {B b : Nat} (h : Below B a W) (hb : B ≤ b) (x0 x1 x2 x3 : Value) : Below B a (set4 W b x0 x1 x2 x3) :=
  (((h.setCell (p := ⟨b, 0, none⟩) hb x0).setCell (p := ⟨b, 1, none⟩) hb x1).setCell (p := ⟨b, 2, none⟩) hb x2).setCell (p := ⟨b, 3, none⟩) hb x3
end Go.Proofs.Ythoenmggjbojoaa
