import Derived.Test.YtnfohlabmidliaaGal
import Derived.Test.YtnfohlabmidliaaGak
/-
  Layer 14: a node stored into a variable of its own, whatever lies beside.
-/
namespace Go.Proofs.Ytnfohlabmidliaa
open Go.RowKit
set_option linter.unusedVariables false

set_option maxRecDepth 20000 in
theorem nnode_info : ∃ i, Try.prog.info? 25 = some i ∧ i.zero = some (.agg #[.bool false, .slice none 0 0, .slice none 0 0]) := ⟨Try.t25, by kernel_rfl, by kernel_rfl⟩
def set3 (W : World) (g : Nat) (a b c : Value) : World := ((W.setCell ⟨g, 0, none⟩ a).setCell ⟨g, 1, none⟩ b).setCell ⟨g, 2, none⟩ c
theorem set3_size (W : World) (g : Nat) (a b c : Value) : (set3 W g a b c).heap.size = W.heap.size := by unfold set3; rw [size_set, size_set, size_set]
theorem set3_below {w W : World} {B g : Nat} (h : Below B w W) (hg : B ≤ g) (a b c : Value) : Below B w (set3 W g a b c) := ((h.setCell (p := ⟨g, 0, none⟩) hg a).setCell (p := ⟨g, 1, none⟩) hg b).setCell (p := ⟨g, 2, none⟩) hg c
theorem set3_grown (W : World) (g : Nat) (a b c : Value) : W.grownBy (set3 W g a b c) (some g) := by
  have hb := set3_below (Below.refl 0 W) (Nat.zero_le g) a b c
  refine ⟨hb.os, hb.tape, hb.output, hb.size, fun k _ hk => ?_⟩
  have hne : k ≠ g := fun e => hk (by rw [e])
  unfold set3
  rw [set_othN hne, set_othN hne, set_othN hne]
theorem NBox.set3 {W : World} {g : Nat} {x y z : Value} (h : NBox W g x y z) (a b c : Value) : NBox (set3 W g a b c) g a b c := by
  obtain ⟨⟨r0, r1, r2⟩, f0, f1, f2⟩ := h
  unfold Go.Proofs.Ytnfohlabmidliaa.set3
  have s0 := World.cell?_setCell_same W _ a r0
  have t1 : (W.setCell ⟨g, 0, none⟩ a).cell? ⟨g, 1, none⟩ = some y := (World.cell?_setCell_other W _ _ _ (by simp)).trans r1
  have t2 : (W.setCell ⟨g, 0, none⟩ a).cell? ⟨g, 2, none⟩ = some z := (World.cell?_setCell_other W _ _ _ (by simp)).trans r2
  have u0 : ((W.setCell ⟨g, 0, none⟩ a).setCell ⟨g, 1, none⟩ b).cell? ⟨g, 0, none⟩ = some a := (World.cell?_setCell_other _ _ _ _ (by simp)).trans s0
  have u1 := World.cell?_setCell_same _ _ b t1
  have u2 : ((W.setCell ⟨g, 0, none⟩ a).setCell ⟨g, 1, none⟩ b).cell? ⟨g, 2, none⟩ = some z := (World.cell?_setCell_other _ _ _ _ (by simp)).trans t2
  exact ⟨⟨(World.cell?_setCell_other _ _ _ _ (by simp)).trans u0, (World.cell?_setCell_other _ _ _ _ (by simp)).trans u1, World.cell?_setCell_same _ _ c u2⟩, by simpa using f0, by simpa using f1, by simpa using f2⟩
theorem nbox_blk {W : World} {g : Nat} {a b c : Value} {t : TypeId} (h : W.heap[g]? = some (.cells #[a, b, c] t (0, 0))) : NBox W g a b c := by
  refine ⟨⟨?_, ?_, ?_⟩, ?_, ?_, ?_⟩
  · rw [cell_of_row _ _ _ _ _ _ h]; rfl
  · rw [cell_of_row _ _ _ _ _ _ h]; rfl
  · rw [cell_of_row _ _ _ _ _ _ h]; rfl
  · simp [World.frozen?, h]
  · simp [World.frozen?, h]
  · simp [World.frozen?, h]
section
variable {W : World} {g : Nat} {C : Array Value} {fr : Nat × Nat}
theorem own_set3 {D n size : Nat} {t : TypeId} {v : Value} {xs : List Value} (h : W.ownsRow D t size v n xs) (hb : W.heap[g]? = some (.cells C 25 fr)) (ht : 25 ≠ t) (a b c : Value) : (set3 W g a b c).ownsRow D t size v n xs :=
  h.kept (set3_grown W g a b c) (.inr (fun e => own_blk_ne h hb ht e.symm))
theorem OwnN.set3 {s : NoS} {Y : NoT} {D : Nat} (h : OwnN s Y D W) (hb : W.heap[g]? = some (.cells C 25 fr)) (a b c : Value) : OwnN s Y D (set3 W g a b c) :=
  ⟨own_set3 h.irow hb (by decide) a b c, own_set3 h.krow hb (by decide) a b c, fun x hx => ⟨own_set3 (h.items x hx).1 hb (by decide) a b c, own_set3 (h.items x hx).2.1 hb (by decide) a b c, (h.items x hx).2.2⟩, fun x hx => ⟨own_set3 (h.kids x hx).1 hb (by decide) a b c, (h.kids x hx).2⟩, h.said⟩
end
end Go.Proofs.Ytnfohlabmidliaa
