/-
  Layer 4: an argument that is a list of pairs.
-/
import Derived.Test.YtnldiemggabdkaaDoorValC
namespace Go.Proofs.YtnldiemggabdkaaDoor
open Go.ChangeShapes Go.WideShapes Go.ChangeAt Go.RowKit Go.Deep
set_option linter.unusedVariables false

section
variable {H : Type} {enc : TypeId × Value → H} {P : Program} {w W : World} {base b0 : Nat} {spare : Nat → Bool} {held : Bool} {r : Reach} {t e tp : TypeId} {v : Value} {d : DataW H} {p : List MemPlace} {f0 f1 f2 f3 f4 g0 g1 : Field} {ek : TypeId}
theorem trod_pair (hp : P.underlying tp = some (.struct #[g0, g1])) (o0 : g0.offset = 0) (o1 : g1.offset = 1) (c0 : P.cellsOf g0.type = 1) (c1 : P.cellsOf g1.type = 5) (q0 : P.underlying g0.type = some .string)
    (ht : P.underlying g1.type = some (.struct #[f0, f1, f2, f3, f4])) (hone : oneCellFields P #[f0, f1, f2, f3, f4] = true)
    (k0 : P.underlying f0.type = some (.int .i64)) (k1 : P.underlying f1.type = some (.int .i64)) (k2 : P.underlying f2.type = some .string) (k3 : P.underlying f3.type = some (.slice g1.type)) (k4 : P.underlying f4.type = some (.slice ek)) (k5 : P.underlying ek = some .string) (hk : P.cellsOf ek = 1) :
    ∀ (fuel : Nat) (cs : List Value) (x : DataW H × List MemPlace), cs.length = 6 → DataW.trod enc P w base spare held fuel tp cs = some x → ∃ p : PT, cs = pCells p ∧ Lie w w.heap.size p.2 ∧ p.1.size ≤ maxLen := by
  intro fuel cs x hsz h
  match cs, hsz with
  | [b0, b1, b2, b3, b4, b5], _ =>
    obtain ⟨xs, n, hn, hx, _, hlen, hg⟩ := DataW.trod_struct hp h
    match xs, hlen with
    | [y0, y1], _ =>
      have hy0 : DataW.trod enc P w base spare held n g0.type [b0] = some y0 := by simpa [o0, c0] using hg 0 g0 rfl
      have hy1 : DataW.trod enc P w base spare held n g1.type [b1, b2, b3, b4, b5] = some y1 := by simpa [o1, c1] using hg 1 g1 rfl
      obtain ⟨s, e2, _, hs⟩ := DataW.trod_string q0 hy0
      obtain ⟨T, hT, hL⟩ := trod_value ht hone c1 k0 k1 k2 k3 k4 k5 hk n _ _ rfl hy1
      simp at e2
      subst e2
      exact ⟨(s, T), by rw [hT]; rfl, hL, hs⟩
theorem came_pairs {A : Option Addr} {n c : Nat} (hu : P.underlying e = some (.slice tp)) (hp : P.underlying tp = some (.struct #[g0, g1])) (hC : P.cellsOf tp = 6) (o0 : g0.offset = 0) (o1 : g1.offset = 1) (c0 : P.cellsOf g0.type = 1) (c1 : P.cellsOf g1.type = 5) (q0 : P.underlying g0.type = some .string)
    (ht : P.underlying g1.type = some (.struct #[f0, f1, f2, f3, f4])) (hone : oneCellFields P #[f0, f1, f2, f3, f4] = true)
    (k0 : P.underlying f0.type = some (.int .i64)) (k1 : P.underlying f1.type = some (.int .i64)) (k2 : P.underlying f2.type = some .string) (k3 : P.underlying f3.type = some (.slice g1.type)) (k4 : P.underlying f4.type = some (.slice ek)) (k5 : P.underlying ek = some .string) (hk : P.cellsOf ek = 1)
    (h : DataW.Trod enc P w base spare held e (.slice A n c) d p) : ∃ l : List PT, Shows w w.heap.size 6 A n (l.flatMap pCells) ∧ (∀ p ∈ l, Lie w w.heap.size p.2 ∧ p.1.size ≤ maxLen) ∧ (A = none → c = 0) ∧ n ≤ c ∧ c ≤ maxLen := by
  obtain ⟨fuel, hf⟩ := h
  obtain ⟨A', n', c', l, hcs, h2, h3, h4⟩ := open_rows pCells (⟨#[]⟩, scV 0 0 ⟨#[]⟩) 6 (by decide) pCells_len (fun p : PT => Lie w w.heap.size p.2 ∧ p.1.size ≤ maxLen) hu hC (fun n' cs' y _ hl' hy' => trod_pair hp o0 o1 c0 c1 q0 ht hone k0 k1 k2 k3 k4 k5 hk n' cs' y hl' hy') hf
  simp [Value.cells] at hcs
  obtain ⟨rfl, rfl, rfl⟩ := hcs
  exact ⟨l, h2, h3, h4⟩
end
end Go.Proofs.YtnldiemggabdkaaDoor
