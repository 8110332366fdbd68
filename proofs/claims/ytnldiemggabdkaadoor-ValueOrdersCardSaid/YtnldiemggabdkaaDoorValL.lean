/-
  Layer 4: a value in memory; the table of shapes.
-/
import Derived.Test.YtnldiemggabdkaaDoorValP
import Derived.Test.YtnldiemggabdkaaDoorSt
import Derived.Test.YtnldiemggabdkaaDoorUtfH
namespace Go.Proofs.YtnldiemggabdkaaDoor
open Go.RowKit
set_option linter.unusedVariables false

def VT.agg : VT → Value | .mk k n s cA cn cc kA kn kc _ _ => .agg #[.int .i64 k, .int .i64 n, .string s, .slice cA cn cc, .slice kA kn kc]
/-- The sizes are those of values in memory. -/
structure VSz (k n : Int) (s : ByteArray) (cA : Option Addr) (cn cc : Nat) (kA : Option Addr) (kn kc : Nat) (keys : List ByteArray) : Prop where
  k : (Lit.int .i64 k).wf = true
  n : (Lit.int .i64 n).wf = true
  s : s.size ≤ maxLen
  c1 : cn ≤ cc
  c2 : cc ≤ maxLen
  c3 : cA = none → cc = 0
  k1 : kn ≤ kc
  k2 : kc ≤ maxLen
  k3 : kA = none → kc = 0
  keys : ∀ x ∈ keys, x.size ≤ maxLen
/-- A value lies in memory: its slices show its kids and its keys, and so on down. -/
inductive Lie (w : World) (B : Nat) : VT → Prop
  | mk {k n s cA cn cc kA kn kc keys kids} (hc : Shows w B 5 cA cn (kids.flatMap VT.cells)) (hk : Shows w B 1 kA kn (keys.map Value.string)) (hz : VSz k n s cA cn cc kA kn kc keys) (h : ∀ x ∈ kids, Lie w B x) : Lie w B (.mk k n s cA cn cc kA kn kc keys kids)
theorem Lie.later {w w' : World} {B : Nat} (hb : Below B w w') : ∀ {T : VT}, Lie w B T → Lie w' B T := by
  intro T h
  induction h with
  | mk hc hk hz _ ih => exact .mk (hc.below hb) (hk.below hb) hz ih
theorem Lie.more {w : World} {B B' : Nat} (hb : B ≤ B') : ∀ {T : VT}, Lie w B T → Lie w B' T := by
  intro T h
  induction h with
  | mk hc hk hz _ ih => exact .mk (hc.more hb) (hk.more hb) hz ih
theorem vflat_len (l : List VT) : (l.flatMap VT.cells).length = l.length * 5 := by
  induction l with
  | nil => rfl
  | cons x l ih => rw [List.flatMap_cons, List.length_append, ih, VT.cells_len, List.length_cons]; omega
theorem vflat_get : ∀ (l : List VT) (i j : Nat) (hi : i < l.length) (_ : j < 5), (l.flatMap VT.cells)[i * 5 + j]? = (l[i]'hi).cells[j]?
  | x :: l, 0, j, _, hj => by
    rw [List.flatMap_cons, List.getElem?_append_left (by rw [VT.cells_len]; omega)]
    simp
  | x :: l, i + 1, j, hi, hj => by
    have e : (i + 1) * 5 + j = x.cells.length + (i * 5 + j) := by rw [VT.cells_len]; omega
    rw [List.flatMap_cons, e, List.getElem?_append_right (by omega), Nat.add_sub_cancel_left, vflat_get l i j (by simpa using hi) hj]
    simp
/-- The five cells of a value at an address. -/
def Cell5 (w : World) (b o : Nat) : VT → Prop
  | .mk k n s cA cn cc kA kn kc _ _ =>
    w.cell? ⟨b, o, none⟩ = some (.int .i64 k) ∧ w.cell? ⟨b, o + 1, none⟩ = some (.int .i64 n) ∧ w.cell? ⟨b, o + 2, none⟩ = some (.string s) ∧ w.cell? ⟨b, o + 3, none⟩ = some (.slice cA cn cc) ∧ w.cell? ⟨b, o + 4, none⟩ = some (.slice kA kn kc)
theorem kids_at {w : World} {B : Nat} {A : Option Addr} {n : Nat} {l : List VT} (h : Shows w B 5 A n (l.flatMap VT.cells)) {i : Nat} (hi : i < n) :
    ∃ b off x, A = some ⟨b, off, none⟩ ∧ b < B ∧ l[i]? = some x ∧ Cell5 w b (off + i * 5) x := by
  obtain ⟨b, off, rfl, hb, hc⟩ := h.2 (by omega)
  have hl : i < l.length := by have := h.1; rw [vflat_len] at this; omega
  have hg := fun j (hj : j < 5) => vflat_get l i j hl hj
  refine ⟨b, off, l[i], rfl, hb, List.getElem?_eq_getElem hl, ?_⟩
  cases hx : l[i] with
  | mk k n s cA cn cc kA kn kc keys kids =>
    rw [hx] at hg
    exact ⟨hc (i * 5 + 0) _ ((hg 0 (by omega)).trans rfl), hc (i * 5 + 1) _ ((hg 1 (by omega)).trans rfl), hc (i * 5 + 2) _ ((hg 2 (by omega)).trans rfl), hc (i * 5 + 3) _ ((hg 3 (by omega)).trans rfl), hc (i * 5 + 4) _ ((hg 4 (by omega)).trans rfl)⟩
theorem kids_len {w : World} {B : Nat} {A : Option Addr} {n : Nat} {l : List VT} (h : Shows w B 5 A n (l.flatMap VT.cells)) : l.length = n := by have := h.1; rw [vflat_len] at this; omega
theorem keys_len {w : World} {B : Nat} {A : Option Addr} {n : Nat} {l : List ByteArray} (h : Shows w B 1 A n (l.map Value.string)) : l.length = n := by have := h.1; simpa using this
theorem key_at {w : World} {B : Nat} {A : Option Addr} {n : Nat} {l : List ByteArray} (h : Shows w B 1 A n (l.map Value.string)) {i : Nat} (hi : i < n) :
    ∃ b off, A = some ⟨b, off, none⟩ ∧ b < B ∧ w.cell? ⟨b, off + i, none⟩ = some (.string (l.getD i ⟨#[]⟩)) := by
  obtain ⟨b, off, rfl, hb, hc⟩ := h.2 (by omega)
  have hl : i < l.length := by rw [keys_len h]; exact hi
  exact ⟨b, off, rfl, hb, hc i _ (by rw [List.getElem?_map, List.getD_eq_getElem?_getD, List.getElem?_eq_getElem hl]; rfl)⟩

/-- The table of shapes. -/
def sRow (k : Int) : List Value := [.bool (shKnown k), .bool (shWide k), .int .i64 (shTop k), .bool (shText k), .bool (shKeys k), .bool (shKids k)]
def stab : List Value := (List.range 7).flatMap fun k => sRow (k : Nat)
def STab (w : World) : Prop := w.rangeAt 0 0 stab
theorem STab.lt {w : World} (h : STab w) : 0 < w.heap.size := World.block_lt_of_cell? w _ (h 0 _ rfl)
theorem STab.below {w w' : World} {B : Nat} (h : STab w) (hb : Below B w w') (hB : 0 < B) : STab w' := fun i v hi => (hb.cell (p := ⟨0, 0 + i, none⟩) hB).trans (h i v hi)
theorem stab_at : ∀ k j, k < 7 → j < 6 → stab[k * 6 + j]? = (sRow (k : Nat))[j]? := by
  intro k j hk hj
  rcases (show k = 0 ∨ k = 1 ∨ k = 2 ∨ k = 3 ∨ k = 4 ∨ k = 5 ∨ k = 6 by omega) with rfl | rfl | rfl | rfl | rfl | rfl | rfl <;>
    rcases (show j = 0 ∨ j = 1 ∨ j = 2 ∨ j = 3 ∨ j = 4 ∨ j = 5 by omega) with rfl | rfl | rfl | rfl | rfl | rfl <;> rfl
theorem STab.row {w : World} (h : STab w) (k : Nat) (hk : k < 7) :
    w.cell? ⟨0, k * 6, none⟩ = some (.bool (shKnown (k : Int))) ∧ w.cell? ⟨0, k * 6 + 1, none⟩ = some (.bool (shWide (k : Int))) ∧ w.cell? ⟨0, k * 6 + 2, none⟩ = some (.int .i64 (shTop (k : Int))) ∧ w.cell? ⟨0, k * 6 + 3, none⟩ = some (.bool (shText (k : Int))) ∧ w.cell? ⟨0, k * 6 + 4, none⟩ = some (.bool (shKeys (k : Int))) ∧ w.cell? ⟨0, k * 6 + 5, none⟩ = some (.bool (shKids (k : Int))) := by
  have g : ∀ j, j < 6 → ∀ v, (sRow (k : Nat))[j]? = some v → w.cell? ⟨0, k * 6 + j, none⟩ = some v := fun j hj v hv => by
    have := h (k * 6 + j) v ((stab_at k j hk hj).trans hv)
    rwa [Nat.zero_add] at this
  exact ⟨g 0 (by omega) _ rfl, g 1 (by omega) _ rfl, g 2 (by omega) _ rfl, g 3 (by omega) _ rfl, g 4 (by omega) _ rfl, g 5 (by omega) _ rfl⟩
end Go.Proofs.YtnldiemggabdkaaDoor
