/-
  Layer 2: Print's closure.
-/
import Derived.Test.YtgnialemiefeeaaDoorQuoL
import Derived.Test.YtgnialemiefeeaaDoorUtfJ
import Derived.Lib.AppendStr
import Derived.Lib.OwnKind
namespace Go.Proofs.YtgnialemiefeeaaDoor
open Go.RowKit

/-- Bytes of one's own in a box. -/
def OutB (n₀ B : Nat) (L : List UInt8) (W : World) : Prop := ∃ v, Boxed W B 22 v ∧ W.ownsRow n₀ 5 1 v L.length (L.map bv)
theorem strCells_ofL (t : List UInt8) : Lib.strCells (ofL t) = t.map bv := by
  simp [Lib.strCells, ofL, bv]
set_option maxRecDepth 20000 in
set_option maxHeartbeats 1000000 in
theorem print1_any (t L : List UInt8) (n₀ B : Nat) (W : World) (h : OutB n₀ B L W) (hn : n₀ ≤ B) (hm : L.length + t.length ≤ 100000000) :
    Calls Tryd.prog 42 #[.string (ofL t), .pointer (some ⟨B, 0, none⟩)] W fun e W' => (∃ v, e = .returned v) ∧ OutB n₀ B (L ++ t) W' ∧ KeepsOthers W W' ∧ Below n₀ W W' := by
  obtain ⟨v, hv, hrow⟩ := h
  obtain ⟨i0, hi, hz0, hz1, hz2⟩ := u8_info'
  have hc := hv.cell
  have hlt := hv.lt
  have hsz := ofL_size t
  have hst := strCells_ofL t
  generalize ofL t = T at *
  go_enter Tryd.func42, Tryd.ntmps42
  go_wp2_with (at_builtin; refine Lib.wpList_append_own_string W rfl _ _ 22 9 rfl n₀ 5 i0 Tryd.underlying22 Tryd.underlying9 hi hz0 hz1 hz2 v L.length (L.map bv) rfl hrow T rfl (by unfold maxLen; rw [hsz]; omega) (by rw [hsz]; omega) (by omega) ?_; intro v' w7 hown hgrow _; have hv1 : Boxed w7 B 22 v := hv.kept hgrow (hv.not_row (by decide) hrow); have e1 := hv1.cell; have e2 := hv1.frozen; rw [hst, hsz] at hown; obtain ⟨A', c', rfl, -, -⟩ := own_form hown)
  go_end0
  refine ⟨⟨_, rfl⟩, ⟨_, hv1.set _, ?_⟩, ?_, ?_⟩
  · rw [List.length_append, List.map_append]
    exact hown.kept (grownBy_setCell' w7 B _) (.inr (hv1.not_row (by decide) hown).symm)
  · refine (KeepsOthers.of_grownBy hgrow fun j o ej hj => ?_).trans (KeepsOthers.setCell _ _ _)
    obtain ⟨c, fz, h2⟩ := Lib.ownsRow_kind hrow j ej
    rw [hj] at h2
    injection h2 with h2
    rw [h2]
    rfl
  · exact ((Below.refl n₀ W).grown hgrow (by omega) (fun k e => (hrow.lt k e).1)).setCell (by show n₀ ≤ B; exact hn) _
end Go.Proofs.YtgnialemiefeeaaDoor
