/-
  Layer 1: the table of forms out of a row's condition: an array of structs of whole numbers holds what it reads as.
-/
import Derived.Test.YtnldiemggabdkaaDoorUtfH
import Derived.Lib.LaidTab
import Derived.Lib.LaidU8
namespace Go.Proofs.YtnldiemggabdkaaDoor
open Go.RowKit

section
variable {H : Type} {enc : TypeId × Value → H} {P : Program} {w : World} {base : Nat} {sp : Nat → Bool} {held : Bool} {k : IntKind}
def litRow (k : IntKind) (zs : List Int) : DataW H := .agg (zs.map fun z => .lit (.int k z))
theorem cells_of_struct {fuel : Nat} {t : TypeId} {fs : Array Field} {cs : List Value} {zs : List Int} {p : List MemPlace} (ht : P.underlying t = some (.struct fs)) (hn : P.cellsOf t = fs.size)
    (hf : ∀ (i : Nat) (f : Field), fs[i]? = some f → f.offset = i ∧ P.cellsOf f.type = 1 ∧ P.underlying f.type = some (.int k))
    (h : DataW.trod enc P w base sp held fuel t cs = some (litRow k zs, p)) : cs = zs.map fun z => Value.int k z := by
  obtain ⟨xs, n, _, hx, hl, hlen, hfx⟩ := DataW.trod_struct ht h
  have hxs : xs.map (·.1) = zs.map fun z => (DataW.lit (.int k z) : DataW H) := by
    have := congrArg Prod.fst hx
    simpa [litRow] using this.symm
  have hzl : zs.length = fs.size := by
    have := congrArg List.length hxs
    simp at this
    omega
  apply List.ext_getElem?
  intro i
  by_cases hi : i < fs.size
  · obtain ⟨h1, h2, h3⟩ := hf i fs[i] (Array.getElem?_eq_getElem hi)
    have hb := hfx i fs[i] (Array.getElem?_eq_getElem hi)
    rw [h1, h2, List.getElem?_eq_getElem (by omega)] at hb
    obtain ⟨z, hc, hz, _⟩ := DataW.trod_int h3 hb
    have e1 : cs[i]? = some (.int k z) := by
      have := congrArg (·[0]?) hc
      simpa [List.getElem?_take, List.getElem?_drop] using this
    have e2 : (xs.map (·.1))[i]? = some (DataW.lit (.int k z) : DataW H) := by
      rw [List.getElem?_map, List.getElem?_eq_getElem (by omega), hz]
      rfl
    rw [hxs] at e2
    simp only [List.getElem?_map, Option.map_eq_some_iff, DataW.lit.injEq, Lit.int.injEq, true_and] at e2
    obtain ⟨z', hz', rfl⟩ := e2
    simp [e1, hz']
  · rw [List.getElem?_eq_none (by omega), List.getElem?_eq_none (by simp; omega)]
theorem cells_of_rows {fuel : Nat} {t e : TypeId} {n m : Nat} {cs : List Value} {rows : List (List Int)} {p : List MemPlace} (ht : P.underlying t = some (.array n e)) (he : P.cellsOf e = m) (hct : P.cellsOf t = n * m)
    (hs : ∀ (cs' : List Value) (fuel' : Nat) (zs : List Int) (p' : List MemPlace), DataW.trod enc P w base sp held fuel' e cs' = some (litRow k zs, p') → cs' = zs.map fun z => Value.int k z)
    (h : DataW.trod enc P w base sp held fuel t cs = some (.agg (rows.map (litRow k)), p)) :
    cs.length = n * m ∧ rows.length = n ∧ ∀ i r, rows[i]? = some r → (cs.drop (i * m)).take m = r.map fun z => Value.int k z := by
  cases fuel with
  | zero => simp [DataW.trod] at h
  | succ fuel =>
    simp only [DataW.trod, ht, he, hct] at h
    split at h
    · rename_i hl
      obtain ⟨xs, hm, hx⟩ := Option.map_eq_some_iff.1 h
      have hxs : xs.map (·.1) = rows.map (litRow k) := by
        have := congrArg Prod.fst hx
        simpa using this
      have hxl : xs.length = n := by simpa using Lib.mapM_length hm
      have hzl : rows.length = n := by
        have := congrArg List.length hxs
        simp at this
        omega
      refine ⟨hl, hzl, fun i r hr => ?_⟩
      have hi : i < n := by rw [← hzl]; exact (List.getElem?_eq_some_iff.1 hr).1
      obtain ⟨b, hb, hf⟩ := Lib.mapM_at hm i i (by simp [hi])
      have h2 : (xs.map (·.1))[i]? = some (litRow k r) := by rw [hxs, List.getElem?_map, hr]; rfl
      rw [List.getElem?_map, hb] at h2
      have h3 : b.1 = litRow k r := by simpa using h2
      obtain ⟨b1, b2⟩ := b
      subst h3
      exact hs _ _ _ _ hf
    · cases h
end
theorem four (cs : List Value) (h : cs.length = 16) : cs = (cs.drop (0 * 4)).take 4 ++ ((cs.drop (1 * 4)).take 4 ++ ((cs.drop (2 * 4)).take 4 ++ (cs.drop (3 * 4)).take 4)) := by
  have e3 : (cs.drop (3 * 4)).take 4 = cs.drop 12 := List.take_of_length_le (by simp; omega)
  have e2 : (cs.drop (2 * 4)).take 4 ++ cs.drop 12 = cs.drop 8 := by
    have := List.take_append_drop 4 (cs.drop 8)
    rwa [List.drop_drop] at this
  have e1 : (cs.drop (1 * 4)).take 4 ++ cs.drop 8 = cs.drop 4 := by
    have := List.take_append_drop 4 (cs.drop 4)
    rwa [List.drop_drop] at this
  rw [e3, e2, e1]
  simp
set_option maxRecDepth 20000 in
theorem form_rows {W : World} {fuel : Nat} {cs : List Value} {zs : List Int} {p : List MemPlace} (h : DataW.trod (fun _ => ()) Tryd.prog W 0 (fun _ => true) false fuel 111 cs = some (litRow .i64 zs, p)) : cs = zs.map fun z => Value.int .i64 z :=
  cells_of_struct Tryd.underlying111 (by kernel_rfl) (fun i f hf => by
    match i, hf with
    | 0, hf => cases hf; exact ⟨rfl, by kernel_rfl, Tryd.underlying3⟩
    | 1, hf => cases hf; exact ⟨rfl, by kernel_rfl, Tryd.underlying3⟩
    | 2, hf => cases hf; exact ⟨rfl, by kernel_rfl, Tryd.underlying3⟩
    | 3, hf => cases hf; exact ⟨rfl, by kernel_rfl, Tryd.underlying3⟩
    | i + 4, hf => simp at hf) h
set_option maxRecDepth 20000 in
theorem gForms : Tryd.prog.globalNamed "davenport/utf.forms" = some 1 := by kernel_rfl
set_option maxRecDepth 20000 in
theorem gFormsType : (Tryd.prog.globals[1]?).map (·.type) = some 121 := by kernel_rfl
set_option maxRecDepth 20000 in
/-- The condition of a row gives the table. -/
theorem utab_of {W : World} (h : Lib.VarReads Tryd.prog W "davenport/utf.forms" Rows.laid_davenport_utf_forms) : UTab W := by
  obtain ⟨g', t', cs, fuel, p, hg', ht', hvar, hd⟩ := h
  obtain rfl := Option.some.inj (gForms.symm.trans hg')
  obtain rfl := Option.some.inj (gFormsType.symm.trans ht')
  obtain ⟨hl, -, hr⟩ := cells_of_rows (k := .i64) (m := 4) (rows := [[0, 127, 1, 0], [128, 2047, 2, 192], [2048, 65535, 3, 224], [65536, 1114111, 4, 240]]) Tryd.underlying121 (by kernel_rfl) (by kernel_rfl) (fun cs' f' zs p' h' => form_rows h') hd
  have e := four cs.toList hl
  rw [hr 0 _ rfl, hr 1 _ rfl, hr 2 _ rfl, hr 3 _ rfl] at e
  intro i v hi
  have hc := World.var?_cell gForms hvar i
  rw [Nat.zero_add, hc, ← Array.getElem?_toList, e]
  exact hi
end Go.Proofs.YtnldiemggabdkaaDoor
