/-
  Arguments that are structs: a revision (two cells), what is known of a document (five cells).
-/
import Derived.Test.YtedoajiapicpnaaDoorFr
import Derived.Lib.SmallJoins
namespace Go.Proofs.YtedoajiapicpnaaDoor
open Go.ChangeShapes Go.WideShapes Go.ChangeAt Go.RowKit

theorem list5 {α : Type} (l : List α) (h : (⟨l⟩ : Array α).size = 5) : ∃ a b c d e, l = [a, b, c, d, e] := by
  match l, h with
  | [a, b, c, d, e], _ => exact ⟨a, b, c, d, e, rfl⟩
theorem nat_u32 {z : Int} (h : (Lit.int .u32 z).wf = true) : ∃ n : Nat, n < 4294967296 ∧ Value.int .u32 z = .int .u32 (n : Int) := by
  obtain ⟨h0, h1⟩ := wf_u32 h
  exact ⟨z.toNat, by omega, by rw [Int.toNat_of_nonneg h0]⟩
theorem nat_u64 {z : Int} (h : (Lit.int .u64 z).wf = true) : ∃ n : Nat, n < 18446744073709551616 ∧ Value.int .u64 z = .int .u64 (n : Int) := by
  obtain ⟨h0, h1⟩ := wf_u64 h
  exact ⟨z.toNat, by omega, by rw [Int.toNat_of_nonneg h0]⟩

section
variable {H : Type} {enc : TypeId × Value → H} {P : Program} {w W : World} {base b0 : Nat} {spare : Nat → Bool} {held : Bool} {r : Reach} {t : TypeId} {v : Value} {d : DataW H} {p : List MemPlace}
/-- A revision that came in. -/
theorem came_rev {f0 f1 : Field} (ht : P.underlying t = some (.struct #[f0, f1])) (h0 : f0.offset = 0) (h1 : f1.offset = 1) (k0 : P.underlying f0.type = some (.int .u32)) (k1 : P.underlying f1.type = some (.int .u32)) (c0 : P.cellsOf f0.type = 1) (c1 : P.cellsOf f1.type = 1) (hct : P.cellsOf t = 2)
    (hv : Value.okWide P W r b0 t v) (h : DataW.Trod enc P w base spare held t v d p) : ∃ g m : Nat, g < 4294967296 ∧ m < 4294967296 ∧ v = .agg #[.int .u32 (g : Int), .int .u32 (m : Int)] := by
  obtain ⟨cs, rfl, hsz, _⟩ : ∃ cs, v = .agg cs ∧ cs.size = P.cellsOf t ∧ Row.okWide P W r b0 t cs := by
    simpa [Value.okWide, ht] using hv
  rw [hct] at hsz
  obtain ⟨l⟩ := cs
  obtain ⟨x0, x1, rfl⟩ : ∃ a b, l = [a, b] := by
    match l, hsz with
    | [a, b], _ => exact ⟨a, b, rfl⟩
  obtain ⟨fuel, hf⟩ := h
  obtain ⟨y0, y1, m, _, _, hy0, hy1⟩ := trod_struct2 ht hf
  rw [h0, c0] at hy0
  rw [h1, c1] at hy1
  obtain ⟨z0, e0, _, w0⟩ := DataW.trod_int k0 hy0
  obtain ⟨z1, e1, _, w1⟩ := DataW.trod_int k1 hy1
  simp [Value.cells] at e0 e1
  subst e0 e1
  obtain ⟨g, hg, eg⟩ := nat_u32 w0
  obtain ⟨m, hm, em⟩ := nat_u32 w1
  exact ⟨g, m, hg, hm, by rw [eg, em]⟩
/-- What is known of a document, as it came in. -/
theorem came_info {f0 f1 f2 f3 g0 g1 : Field} (ht : P.underlying t = some (.struct #[f0, f1, f2, f3])) (h0 : f0.offset = 0) (h1 : f1.offset = 2) (h2 : f2.offset = 3) (h3 : f3.offset = 4)
    (k0 : P.underlying f0.type = some (.struct #[g0, g1])) (k1 : P.underlying f1.type = some (.int .u64)) (k2 : P.underlying f2.type = some .bool) (k3 : P.underlying f3.type = some (.int .i64))
    (c0 : P.cellsOf f0.type = 2) (c1 : P.cellsOf f1.type = 1) (c2 : P.cellsOf f2.type = 1) (c3 : P.cellsOf f3.type = 1) (hct : P.cellsOf t = 5)
    (o0 : g0.offset = 0) (o1 : g1.offset = 1) (u0 : P.underlying g0.type = some (.int .u32)) (u1 : P.underlying g1.type = some (.int .u32)) (d0 : P.cellsOf g0.type = 1) (d1 : P.cellsOf g1.type = 1)
    (hv : Value.okWide P W r b0 t v) (h : DataW.Trod enc P w base spare held t v d p) : ∃ (g m s : Nat) (b : Bool) (a : Int), g < 4294967296 ∧ m < 4294967296 ∧ s < 18446744073709551616 ∧ (Lit.int .i64 a).wf = true ∧ v = .agg #[.int .u32 (g : Int), .int .u32 (m : Int), .int .u64 (s : Int), .bool b, .int .i64 a] := by
  obtain ⟨cs, rfl, hsz, _⟩ : ∃ cs, v = .agg cs ∧ cs.size = P.cellsOf t ∧ Row.okWide P W r b0 t cs := by
    simpa [Value.okWide, ht] using hv
  rw [hct] at hsz
  obtain ⟨l⟩ := cs
  obtain ⟨x0, x1, x2, x3, x4, rfl⟩ := list5 l hsz
  obtain ⟨fuel, hf⟩ := h
  obtain ⟨xs, n, _, _, _, hlen, hfs⟩ := DataW.trod_struct ht hf
  match xs, hlen with
  | [y0, y1, y2, y3], _ =>
    have hy0 := hfs 0 f0 rfl
    have hy1 := hfs 1 f1 rfl
    have hy2 := hfs 2 f2 rfl
    have hy3 := hfs 3 f3 rfl
    rw [h0, c0] at hy0
    rw [h1, c1] at hy1
    rw [h2, c2] at hy2
    rw [h3, c3] at hy3
    obtain ⟨q0, q1, m, _, _, hq0, hq1⟩ := trod_struct2 k0 hy0
    rw [o0, d0] at hq0
    rw [o1, d1] at hq1
    obtain ⟨z0, e0, _, w0⟩ := DataW.trod_int u0 hq0
    obtain ⟨z1, e1, _, w1⟩ := DataW.trod_int u1 hq1
    obtain ⟨z2, e2, _, w2⟩ := DataW.trod_int k1 hy1
    obtain ⟨z3, e3, _⟩ := DataW.trod_bool k2 hy2
    obtain ⟨z4, e4, _, w4⟩ := DataW.trod_int k3 hy3
    simp [Value.cells] at e0 e1 e2 e3 e4
    subst e0 e1 e2 e3 e4
    obtain ⟨g, hg, eg⟩ := nat_u32 w0
    obtain ⟨m, hm, em⟩ := nat_u32 w1
    obtain ⟨s, hs, es⟩ := nat_u64 w2
    exact ⟨g, m, s, z3, z4, hg, hm, hs, w4, by rw [eg, em, es]⟩
end
end Go.Proofs.YtedoajiapicpnaaDoor
