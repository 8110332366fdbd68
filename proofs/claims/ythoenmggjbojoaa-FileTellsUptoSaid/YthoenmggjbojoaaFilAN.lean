/-
  Layer 10: a deed of a row, cell by cell; deeds done to files that are right.
-/
import Derived.Test.YthoenmggjbojoaaFilAM
import Derived.Test.YthoenmggjbojoaaShr
namespace Go.Proofs.Ythoenmggjbojoaa
open Go.RowKit
set_option linter.unusedVariables false

theorem deed_at {w : World} {B n : Nat} {A : Option Addr} {l : List DeedT} (h : Deeds w B A n l) {k : Nat} (hk : k < n) : ∃ b off x, A = some ⟨b, off, none⟩ ∧ b < B ∧ l[k]? = some x ∧
    w.cell? ⟨b, off + k * 5, none⟩ = some (.int .i64 x.kind) ∧ w.cell? ⟨b, off + k * 5 + 1, none⟩ = some (.int .i64 x.n) ∧ w.cell? ⟨b, off + k * 5 + 2, none⟩ = some (.int .i64 x.tear) ∧ w.cell? ⟨b, off + k * 5 + 3, none⟩ = some (.slice x.bytes.A x.bytes.n x.bytes.c) ∧ w.cell? ⟨b, off + k * 5 + 4, none⟩ = some (.slice x.keep.A x.keep.n x.keep.c) := by
  obtain ⟨b, off, rfl, hb, hc⟩ := h.2 (by omega)
  have hl : l.length = n := by have := h.1; rw [flat_len DeedT.cells 5 (fun _ => rfl)] at this; omega
  have hk' : k < l.length := by omega
  have hg := fun j hj => flat_get DeedT.cells 5 (fun _ => rfl) l k j hk' hj
  refine ⟨b, off, l[k], rfl, hb, List.getElem?_eq_getElem hk', ?_, ?_, ?_, ?_, ?_⟩
  · exact hc (k * 5 + 0) _ (hg 0 (by decide))
  · rw [Nat.add_assoc]; exact hc (k * 5 + 1) _ (hg 1 (by decide))
  · rw [Nat.add_assoc]; exact hc (k * 5 + 2) _ (hg 2 (by decide))
  · rw [Nat.add_assoc]; exact hc (k * 5 + 3) _ (hg 3 (by decide))
  · rw [Nat.add_assoc]; exact hc (k * 5 + 4) _ (hg 4 (by decide))
theorem doesR (X : FileT) (x : DeedT) (N : Nat) (w : World) (hL : LieF w w.heap.size X) (hx : x.Ok w w.heap.size N) (hr : X.s.right = true) :
    Calls Try.prog 14 #[X.agg, .agg #[.int .i64 x.kind, .int .i64 x.n, .int .i64 x.tear, .slice x.bytes.A x.bytes.n x.bytes.c, .slice x.keep.A x.keep.n x.keep.c]] w (OpP X (AwayP x.bytes) (doS X.s X.s.all.length x) w) := by
  have hr' : X.right = true := by rw [right_s hL]; exact hr
  have h := does_any X x w.heap.size N w hL hx (Nat.le_refl _) hr'
  rw [long_s hL hr'] at h
  exact h
theorem doR {X Y : FileT} {x : DeedT} {w : World} {B N : Nat} (hx : x.Ok w B N) (hr : X.s.right = true) (hs : Y.s = (doS X.s X.s.all.length x).1) : Y.s.right = true := by
  rw [hs]; exact doS_right hr x hx.bytes.len
theorem checkR (X : FileT) (w : World) (hL : LieF w w.heap.size X) (hr : X.s.right = true) :
    Calls Try.prog 17 #[X.agg] w fun e w' => e = .returned (.int .i64 0) ∧ Below w.heap.size w w' := by
  have hr' : X.right = true := by rw [right_s hL]; exact hr
  refine (checkF_any X _ w hL (Nat.le_refl _) (right_rows hL hr').1).mono ?_
  rintro e w' ⟨rfl, hb⟩
  exact ⟨by rw [if_pos hr'], hb⟩
end Go.Proofs.Ythoenmggjbojoaa
