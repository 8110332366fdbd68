import Derived.Test.YtinaecmpigenoaaDoorGae
import Derived.Lib.LaidTab
import Derived.Lib.LaidU8
import Derived.Test.YtinaecmpigenoaaDoorGag
import Derived.Test.YtinaecmpigenoaaDoorGaa
/-
  Layer 1: the table of forms out of a row's condition: an array of structs of whole numbers holds what it reads as.
-/
namespace Go.Proofs.YtinaecmpigenoaaDoor
open Go.RowKit

section
variable {H : Type} {enc : TypeId × Value → H} {P : Program} {w : World} {base : Nat} {sp : Nat → Bool} {held : Bool} {k : IntKind}
def litRow (k : IntKind) (zs : List Int) : DataW H := .agg (zs.map fun z => .lit (.int k z))
theorem cells_of_struct {fuel : Nat} {t : TypeId} {fs : Array Field} {cs : List Value} {zs : List Int} {p : List MemPlace} (ht : P.underlying t = some (.struct fs)) (hn : P.cellsOf t = fs.size)
    (hf : ∀ (i : Nat) (f : Field), fs[i]? = some f → f.offset = i ∧ P.cellsOf f.type = 1 ∧ P.underlying f.type = some (.int k))
    (h : DataW.trod enc P w base sp held fuel t cs = some (litRow k zs, p)) : cs = zs.map fun z => Value.int k z := by
  obtain ⟨xs, n, _, hx, hl, hlen, hfx⟩ := DataW.trod_struct ht h
  have hxs : xs.map (·.1) = zs.map fun z => (DataW.lit (.int k z) : DataW H) := by
    have := congrArg Prod.fst hx
    simpa [litRow] using this.symm
  have hzl : zs.length = fs.size := by
    have := congrArg List.length hxs
    simp at this
    omega
  apply List.ext_getElem?
  intro i
  by_cases hi : i < fs.size
  · obtain ⟨h1, h2, h3⟩ := hf i fs[i] (Array.getElem?_eq_getElem hi)
    have hb := hfx i fs[i] (Array.getElem?_eq_getElem hi)
    rw [h1, h2, List.getElem?_eq_getElem (by omega)] at hb
    obtain ⟨z, hc, hz, _⟩ := DataW.trod_int h3 hb
    have e1 : cs[i]? = some (.int k z) := by
      have := congrArg (·[0]?) hc
      simpa [List.getElem?_take, List.getElem?_drop] using this
    have e2 : (xs.map (·.1))[i]? = some (DataW.lit (.int k z) : DataW H) := by
      rw [List.getElem?_map, List.getElem?_eq_getElem (by omega), hz]
      rfl
    rw [hxs] at e2
    simp only [List.getElem?_map, Option.map_eq_some_iff, DataW.lit.injEq, Lit.int.injEq, true_and] at e2
    obtain ⟨z', hz', rfl⟩ := e2
    simp [e1, hz']
  · rw [List.getElem?_eq_none (by omega), List.getElem?_eq_none (by simp; omega)]
theorem cells_of_rows {fuel : Nat} {t e : TypeId} {n m : Nat} {cs : List Value} {rows : List (List Int)} {p : List MemPlace} (ht : P.underlying t = some (.array n e)) (he : P.cellsOf e = m) (hct : P.cellsOf t = n * m)
    (hs : ∀ (cs' : List Value) (fuel' : Nat) (zs : List Int) (p' : List MemPlace), DataW.trod enc P w base sp held fuel' e cs' = some (litRow k zs, p') → cs' = zs.map fun z => Value.int k z)
    (h : DataW.trod enc P w base sp held fuel t cs = some (.agg (rows.map (litRow k)), p)) :
    cs.length = n * m ∧ rows.length = n ∧ ∀ i r, rows[i]? = some r → (cs.drop (i * m)).take m = r.map fun z => Value.int k z := by
  cases fuel with
  | zero => simp [DataW.trod] at h
  | succ fuel =>
    simp only [DataW.trod, ht, he, hct] at h
    split at h
    · rename_i hl
      obtain ⟨xs, hm, hx⟩ := Option.map_eq_some_iff.1 h
      have hxs : xs.map (·.1) = rows.map (litRow k) := by
        have := congrArg Prod.fst hx
        simpa using this
      have hxl : xs.length = n := by simpa using Lib.mapM_length hm
      have hzl : rows.length = n := by
        have := congrArg List.length hxs
        simp at this
        omega
      refine ⟨hl, hzl, fun i r hr => ?_⟩
      have hi : i < n := by rw [← hzl]; exact (List.getElem?_eq_some_iff.1 hr).1
      obtain ⟨b, hb, hf⟩ := Lib.mapM_at hm i i (by simp [hi])
      have h2 : (xs.map (·.1))[i]? = some (litRow k r) := by rw [hxs, List.getElem?_map, hr]; rfl
      rw [List.getElem?_map, hb] at h2
      have h3 : b.1 = litRow k r := by simpa using h2
      obtain ⟨b1, b2⟩ := b
      subst h3
      exact hs _ _ _ _ hf
    · cases h
end
theorem four (cs : List Value) (h : cs.length = 16) : cs = (cs.drop (0 * 4)).take 4 ++ ((cs.drop (1 * 4)).take 4 ++ ((cs.drop (2 * 4)).take 4 ++ (cs.drop (3 * 4)).take 4)) := by
  have e3 : (cs.drop (3 * 4)).take 4 = cs.drop 12 := List.take_of_length_le (by simp; omega)
  have e2 : (cs.drop (2 * 4)).take 4 ++ cs.drop 12 = cs.drop 8 := by
    have := List.take_append_drop 4 (cs.drop 8)
    rwa [List.drop_drop] at this
  have e1 : (cs.drop (1 * 4)).take 4 ++ cs.drop 8 = cs.drop 4 := by
    have := List.take_append_drop 4 (cs.drop 4)
    rwa [List.drop_drop] at this
  rw [e3, e2, e1]
  simp
set_option maxRecDepth 20000 in
theorem form_rows {W : World} {fuel : Nat} {cs : List Value} {zs : List Int} {p : List MemPlace} (h : DataW.trod (fun _ => ()) Tryd.prog W 0 (fun _ => true) false fuel 100 cs = some (litRow .i64 zs, p)) : cs = zs.map fun z => Value.int .i64 z :=
  cells_of_struct Tryd.underlying100 (by kernel_rfl) (fun i f hf => by
    match i, hf with
    | 0, hf => cases hf; exact ⟨rfl, by kernel_rfl, Tryd.underlying3⟩
    | 1, hf => cases hf; exact ⟨rfl, by kernel_rfl, Tryd.underlying3⟩
    | 2, hf => cases hf; exact ⟨rfl, by kernel_rfl, Tryd.underlying3⟩
    | 3, hf => cases hf; exact ⟨rfl, by kernel_rfl, Tryd.underlying3⟩
    | i + 4, hf => simp at hf) h
set_option maxRecDepth 20000 in
theorem gForms : Tryd.prog.globalNamed "davenport/utf.forms" = some 1 := by kernel_rfl
set_option maxRecDepth 20000 in
theorem gFormsType : (Tryd.prog.globals[1]?).map (·.type) = some 103 := by kernel_rfl
set_option maxRecDepth 20000 in
/-- The condition of a row gives the table. -/
theorem utab_of {W : World} (h : Lib.VarReads Tryd.prog W "davenport/utf.forms" Rows.laid_davenport_utf_forms) : UTab W := by
  obtain ⟨g', t', cs, fuel, p, hg', ht', hvar, hd⟩ := h
  obtain rfl := Option.some.inj (gForms.symm.trans hg')
  obtain rfl := Option.some.inj (gFormsType.symm.trans ht')
  obtain ⟨hl, -, hr⟩ := cells_of_rows (k := .i64) (m := 4) (rows := [[0, 127, 1, 0], [128, 2047, 2, 192], [2048, 65535, 3, 224], [65536, 1114111, 4, 240]]) Tryd.underlying103 (by kernel_rfl) (by kernel_rfl) (fun cs' f' zs p' h' => form_rows h') hd
  have e := four cs.toList hl
  rw [hr 0 _ rfl, hr 1 _ rfl, hr 2 _ rfl, hr 3 _ rfl] at e
  intro i v hi
  have hc := World.var?_cell gForms hvar i
  rw [Nat.zero_add, hc, ← Array.getElem?_toList, e]
  exact hi
end Go.Proofs.YtinaecmpigenoaaDoor
/-
  A laid variable that is an array of structs of mixed kinds: its cells, out of what it reads as.
-/
namespace Go.Proofs.YtinaecmpigenoaaDoor
open Go.RowKit

section
variable {H : Type} {enc : TypeId × Value → H} {P : Program} {w : World} {base : Nat} {sp : Nat → Bool} {held : Bool}
theorem cells_of_rowsG {R : Type} {F : R → DataW H} {V : R → List Value} {fuel : Nat} {t e : TypeId} {n m : Nat} {cs : List Value} {rows : List R} {p : List MemPlace} (ht : P.underlying t = some (.array n e)) (he : P.cellsOf e = m) (hct : P.cellsOf t = n * m)
    (hs : ∀ (cs' : List Value) (fuel' : Nat) (r : R) (p' : List MemPlace), DataW.trod enc P w base sp held fuel' e cs' = some (F r, p') → cs' = V r)
    (h : DataW.trod enc P w base sp held fuel t cs = some (.agg (rows.map F), p)) :
    cs.length = n * m ∧ rows.length = n ∧ ∀ i r, rows[i]? = some r → (cs.drop (i * m)).take m = V r := by
  cases fuel with
  | zero => simp [DataW.trod] at h
  | succ fuel =>
    simp only [DataW.trod, ht, he, hct] at h
    split at h
    · rename_i hl
      obtain ⟨xs, hm, hx⟩ := Option.map_eq_some_iff.1 h
      have hxs : xs.map (·.1) = rows.map F := by
        have := congrArg Prod.fst hx
        simpa using this
      have hxl : xs.length = n := by simpa using Lib.mapM_length hm
      have hzl : rows.length = n := by
        have := congrArg List.length hxs
        simp at this
        omega
      refine ⟨hl, hzl, fun i r hr => ?_⟩
      have hi : i < n := by rw [← hzl]; exact (List.getElem?_eq_some_iff.1 hr).1
      obtain ⟨b, hb, hf⟩ := Lib.mapM_at hm i i (by simp [hi])
      have h2 : (xs.map (·.1))[i]? = some (F r) := by rw [hxs, List.getElem?_map, hr]; rfl
      rw [List.getElem?_map, hb] at h2
      have h3 : b.1 = F r := by simpa using h2
      obtain ⟨b1, b2⟩ := b
      subst h3
      exact hs _ _ _ _ hf
    · cases h
end
theorem chunk {cs L : List Value} {q m r : Nat} {v : Value} (h : (cs.drop (q * m)).take m = L) (hv : L[r]? = some v) : cs[q * m + r]? = some v := by
  rw [← h, List.getElem?_take] at hv
  split at hv
  · rwa [List.getElem?_drop] at hv
  · cases hv
end Go.Proofs.YtinaecmpigenoaaDoor
/-
  Layer 4: the table of shapes out of a row's condition.
-/
namespace Go.Proofs.YtinaecmpigenoaaDoor
open Go.RowKit
set_option linter.unusedVariables false

theorem six_of {α : Type} (l : List α) (h : l.length = 6) : ∃ a b c d e f, l = [a, b, c, d, e, f] := by
  match l, h with
  | [a, b, c, d, e, f], _ => exact ⟨a, b, c, d, e, f, rfl⟩
/-- A row of the table, as it reads and as it lies. -/
def shpF (r : Bool × Bool × Int × Bool × Bool × Bool) : DataW Unit := .agg [.lit (.bool r.1), .lit (.bool r.2.1), .lit (.int .i64 r.2.2.1), .lit (.bool r.2.2.2.1), .lit (.bool r.2.2.2.2.1), .lit (.bool r.2.2.2.2.2)]
def shpV (r : Bool × Bool × Int × Bool × Bool × Bool) : List Value := [.bool r.1, .bool r.2.1, .int .i64 r.2.2.1, .bool r.2.2.2.1, .bool r.2.2.2.2.1, .bool r.2.2.2.2.2]
set_option maxRecDepth 20000 in
theorem shp_rows {W : World} {fuel : Nat} {cs : List Value} {r : Bool × Bool × Int × Bool × Bool × Bool} {p : List MemPlace} (h : DataW.trod (fun _ => ()) Tryd.prog W 0 (fun _ => true) false fuel 90 cs = some (shpF r, p)) : cs = shpV r := by
  obtain ⟨xs, n, _, hx, hl, hlen, hfx⟩ := DataW.trod_struct Tryd.underlying90 h
  have hxs : xs.map (·.1) = [.lit (.bool r.1), .lit (.bool r.2.1), .lit (.int .i64 r.2.2.1), .lit (.bool r.2.2.2.1), .lit (.bool r.2.2.2.2.1), .lit (.bool r.2.2.2.2.2)] := by
    have := congrArg Prod.fst hx
    simpa [shpF] using this.symm
  have hxl : xs.length = 6 := by
    have := congrArg List.length hxs
    simpa using this
  obtain ⟨x0, x1, x2, x3, x4, x5, rfl⟩ := six_of xs hxl
  injection hxs with e0 hxs
  injection hxs with e1 hxs
  injection hxs with e2 hxs
  injection hxs with e3 hxs
  injection hxs with e4 hxs
  injection hxs with e5 _
  obtain ⟨z0, c0, d0⟩ := DataW.trod_bool Tryd.underlying4 (hfx 0 _ rfl)
  obtain ⟨z1, c1, d1⟩ := DataW.trod_bool Tryd.underlying4 (hfx 1 _ rfl)
  obtain ⟨z2, c2, d2, _⟩ := DataW.trod_int Tryd.underlying2 (hfx 2 _ rfl)
  obtain ⟨z3, c3, d3⟩ := DataW.trod_bool Tryd.underlying4 (hfx 3 _ rfl)
  obtain ⟨z4, c4, d4⟩ := DataW.trod_bool Tryd.underlying4 (hfx 4 _ rfl)
  obtain ⟨z5, c5, d5⟩ := DataW.trod_bool Tryd.underlying4 (hfx 5 _ rfl)
  have hl' : cs.length = 6 := hl.trans (by kernel_rfl)
  have kb : Tryd.prog.cellsOf 4 = 1 := by kernel_rfl
  have ki : Tryd.prog.cellsOf 2 = 1 := by kernel_rfl
  obtain ⟨a, b, c, d, e, f, rfl⟩ := six_of cs hl'
  have c0' : List.take (Tryd.prog.cellsOf 4) [a, b, c, d, e, f] = _ := c0
  have c1' : List.take (Tryd.prog.cellsOf 4) [b, c, d, e, f] = _ := c1
  have c2' : List.take (Tryd.prog.cellsOf 2) [c, d, e, f] = _ := c2
  have c3' : List.take (Tryd.prog.cellsOf 4) [d, e, f] = _ := c3
  have c4' : List.take (Tryd.prog.cellsOf 4) [e, f] = _ := c4
  have c5' : List.take (Tryd.prog.cellsOf 4) [f] = _ := c5
  rw [kb] at c0' c1' c3' c4' c5'
  rw [ki] at c2'
  clear c0 c1 c2 c3 c4 c5
  simp only [List.take_succ_cons, List.take_zero, List.cons.injEq, and_true] at c0' c1' c2' c3' c4' c5'
  subst c0' c1' c2' c3' c4' c5'
  rw [d0] at e0
  rw [d1] at e1
  rw [d2] at e2
  rw [d3] at e3
  rw [d4] at e4
  rw [d5] at e5
  injection e0 with e0
  injection e1 with e1
  injection e2 with e2
  injection e3 with e3
  injection e4 with e4
  injection e5 with e5
  injection e0 with e0
  injection e1 with e1
  injection e2 with _ e2
  injection e3 with e3
  injection e4 with e4
  injection e5 with e5
  subst e0 e1 e2 e3 e4 e5
  rfl
set_option maxRecDepth 20000 in
theorem gShp : Tryd.prog.globalNamed "davenport/value.shapes" = some 0 := by kernel_rfl
set_option maxRecDepth 20000 in
theorem gShpType : (Tryd.prog.globals[0]?).map (·.type) = some 91 := by kernel_rfl
set_option maxRecDepth 20000 in
/-- The condition of a row gives the table. -/
theorem stab_of {W : World} (h : Lib.VarReads Tryd.prog W "davenport/value.shapes" Rows.laid_davenport_value_shapes) : STab W := by
  obtain ⟨g', t', cs, fuel, p, hg', ht', hvar, hd⟩ := h
  obtain rfl := Option.some.inj (gShp.symm.trans hg')
  obtain rfl := Option.some.inj (gShpType.symm.trans ht')
  obtain ⟨hl, -, hr⟩ := cells_of_rowsG (m := 6) (F := shpF) (V := shpV) (rows := [(false, false, 0, false, false, false), (true, false, 0, false, false, false), (true, false, 1, false, false, false), (true, true, 0, false, false, false), (true, false, 0, true, false, false), (true, false, 0, false, false, true), (true, false, 0, false, true, true)]) Tryd.underlying91 (by kernel_rfl) (by kernel_rfl) (fun cs' f' zs p' h' => shp_rows h') hd
  intro i v hi
  have hc := World.var?_cell gShp hvar i
  rw [Nat.zero_add, hc, ← Array.getElem?_toList]
  have hi42 : i < 42 := (List.getElem?_eq_some_iff.1 hi).1
  match i, hi42, hi with
  | 0, _, hi => exact (chunk (q := 0) (m := 6) (r := 0) (hr 0 _ rfl) rfl).trans hi
  | 1, _, hi => exact (chunk (q := 0) (m := 6) (r := 1) (hr 0 _ rfl) rfl).trans hi
  | 2, _, hi => exact (chunk (q := 0) (m := 6) (r := 2) (hr 0 _ rfl) rfl).trans hi
  | 3, _, hi => exact (chunk (q := 0) (m := 6) (r := 3) (hr 0 _ rfl) rfl).trans hi
  | 4, _, hi => exact (chunk (q := 0) (m := 6) (r := 4) (hr 0 _ rfl) rfl).trans hi
  | 5, _, hi => exact (chunk (q := 0) (m := 6) (r := 5) (hr 0 _ rfl) rfl).trans hi
  | 6, _, hi => exact (chunk (q := 1) (m := 6) (r := 0) (hr 1 _ rfl) rfl).trans hi
  | 7, _, hi => exact (chunk (q := 1) (m := 6) (r := 1) (hr 1 _ rfl) rfl).trans hi
  | 8, _, hi => exact (chunk (q := 1) (m := 6) (r := 2) (hr 1 _ rfl) rfl).trans hi
  | 9, _, hi => exact (chunk (q := 1) (m := 6) (r := 3) (hr 1 _ rfl) rfl).trans hi
  | 10, _, hi => exact (chunk (q := 1) (m := 6) (r := 4) (hr 1 _ rfl) rfl).trans hi
  | 11, _, hi => exact (chunk (q := 1) (m := 6) (r := 5) (hr 1 _ rfl) rfl).trans hi
  | 12, _, hi => exact (chunk (q := 2) (m := 6) (r := 0) (hr 2 _ rfl) rfl).trans hi
  | 13, _, hi => exact (chunk (q := 2) (m := 6) (r := 1) (hr 2 _ rfl) rfl).trans hi
  | 14, _, hi => exact (chunk (q := 2) (m := 6) (r := 2) (hr 2 _ rfl) rfl).trans hi
  | 15, _, hi => exact (chunk (q := 2) (m := 6) (r := 3) (hr 2 _ rfl) rfl).trans hi
  | 16, _, hi => exact (chunk (q := 2) (m := 6) (r := 4) (hr 2 _ rfl) rfl).trans hi
  | 17, _, hi => exact (chunk (q := 2) (m := 6) (r := 5) (hr 2 _ rfl) rfl).trans hi
  | 18, _, hi => exact (chunk (q := 3) (m := 6) (r := 0) (hr 3 _ rfl) rfl).trans hi
  | 19, _, hi => exact (chunk (q := 3) (m := 6) (r := 1) (hr 3 _ rfl) rfl).trans hi
  | 20, _, hi => exact (chunk (q := 3) (m := 6) (r := 2) (hr 3 _ rfl) rfl).trans hi
  | 21, _, hi => exact (chunk (q := 3) (m := 6) (r := 3) (hr 3 _ rfl) rfl).trans hi
  | 22, _, hi => exact (chunk (q := 3) (m := 6) (r := 4) (hr 3 _ rfl) rfl).trans hi
  | 23, _, hi => exact (chunk (q := 3) (m := 6) (r := 5) (hr 3 _ rfl) rfl).trans hi
  | 24, _, hi => exact (chunk (q := 4) (m := 6) (r := 0) (hr 4 _ rfl) rfl).trans hi
  | 25, _, hi => exact (chunk (q := 4) (m := 6) (r := 1) (hr 4 _ rfl) rfl).trans hi
  | 26, _, hi => exact (chunk (q := 4) (m := 6) (r := 2) (hr 4 _ rfl) rfl).trans hi
  | 27, _, hi => exact (chunk (q := 4) (m := 6) (r := 3) (hr 4 _ rfl) rfl).trans hi
  | 28, _, hi => exact (chunk (q := 4) (m := 6) (r := 4) (hr 4 _ rfl) rfl).trans hi
  | 29, _, hi => exact (chunk (q := 4) (m := 6) (r := 5) (hr 4 _ rfl) rfl).trans hi
  | 30, _, hi => exact (chunk (q := 5) (m := 6) (r := 0) (hr 5 _ rfl) rfl).trans hi
  | 31, _, hi => exact (chunk (q := 5) (m := 6) (r := 1) (hr 5 _ rfl) rfl).trans hi
  | 32, _, hi => exact (chunk (q := 5) (m := 6) (r := 2) (hr 5 _ rfl) rfl).trans hi
  | 33, _, hi => exact (chunk (q := 5) (m := 6) (r := 3) (hr 5 _ rfl) rfl).trans hi
  | 34, _, hi => exact (chunk (q := 5) (m := 6) (r := 4) (hr 5 _ rfl) rfl).trans hi
  | 35, _, hi => exact (chunk (q := 5) (m := 6) (r := 5) (hr 5 _ rfl) rfl).trans hi
  | 36, _, hi => exact (chunk (q := 6) (m := 6) (r := 0) (hr 6 _ rfl) rfl).trans hi
  | 37, _, hi => exact (chunk (q := 6) (m := 6) (r := 1) (hr 6 _ rfl) rfl).trans hi
  | 38, _, hi => exact (chunk (q := 6) (m := 6) (r := 2) (hr 6 _ rfl) rfl).trans hi
  | 39, _, hi => exact (chunk (q := 6) (m := 6) (r := 3) (hr 6 _ rfl) rfl).trans hi
  | 40, _, hi => exact (chunk (q := 6) (m := 6) (r := 4) (hr 6 _ rfl) rfl).trans hi
  | 41, _, hi => exact (chunk (q := 6) (m := 6) (r := 5) (hr 6 _ rfl) rfl).trans hi
end Go.Proofs.YtinaecmpigenoaaDoor
/-
  A slice of whole numbers among the arguments: what it shows. No program in sight.
-/
namespace Go.Proofs.YtinaecmpigenoaaDoor
open Go.ChangeShapes Go.WideShapes Go.ChangeAt Go.RowKit

theorem came_ints {H : Type} {enc : TypeId × Value → H} {P : Program} {w : World} {base : Nat} {spare : Nat → Bool} {held : Bool} {t e : TypeId} {d : DataW H} {p : List MemPlace} {k : IntKind} {A : Option Addr} {n c : Nat}
    (ht : P.underlying t = some (.slice e)) (he : P.underlying e = some (.int k)) (hC : P.cellsOf e = 1) (h : DataW.Trod enc P w base spare held t (.slice A n c) d p) :
    ∃ l : List Int, Shows w w.heap.size 1 A n (l.map (.int k)) ∧ (∀ z ∈ l, (Lit.int k z).wf = true) ∧ (A = none → c = 0) ∧ n ≤ c ∧ c ≤ maxLen := by
  obtain ⟨fuel, hf⟩ := h
  rcases open_ints ht he hC hf with ⟨hcs, _⟩ | ⟨x, l, c', zs, hcs, _, hl, hm, hz, _, hcell, hwz⟩
  · simp [Value.cells] at hcs
    obtain ⟨rfl, rfl, rfl⟩ := hcs
    exact ⟨[], Shows.zero _, by simp, fun _ => rfl, Nat.le_refl _, by unfold maxLen; omega⟩
  · simp [Value.cells] at hcs
    obtain ⟨rfl, rfl, rfl⟩ := hcs
    have hz' : n ≤ zs.length := by
      have hz2 : zs.length = if spare x.block = true then c else n := by simpa using hz
      rw [hz2]
      split <;> omega
    refine ⟨zs.take n, ⟨by simp; omega, fun hn0 => ?_⟩, fun z hz => hwz z (List.mem_of_mem_take hz), nofun, hl, hm⟩
    obtain ⟨b, off, spot⟩ := x
    have hc0 := hcell 0 (by omega)
    have hspot : spot = none := by simpa [Addr.add] using World.cell?_spot hc0
    subst hspot
    have hlt : b < w.heap.size := World.block_lt_of_cell? w _ (by simpa [Addr.add] using hc0)
    refine ⟨b, off, rfl, hlt, fun j u hu => ?_⟩
    rw [List.getElem?_map, List.getElem?_take] at hu
    split at hu
    · obtain ⟨z, hz1, rfl⟩ := Option.map_eq_some_iff.1 hu
      have hj : j < zs.length := (List.getElem?_eq_some_iff.1 hz1).1
      have hcj := hcell j hj
      rw [addr_add] at hcj
      rw [hcj, List.getD_eq_getElem?_getD, hz1]
      rfl
    · cases hu
end Go.Proofs.YtinaecmpigenoaaDoor
