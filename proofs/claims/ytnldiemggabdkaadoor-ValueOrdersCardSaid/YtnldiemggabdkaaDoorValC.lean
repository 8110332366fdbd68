/-
  Layer 4: arguments: a value, a list of values, pairs, keys.
-/
import Derived.Test.YtnldiemggabdkaaDoorValZ
import Derived.Test.YtnldiemggabdkaaDoorShr
namespace Go.Proofs.YtnldiemggabdkaaDoor
open Go.ChangeShapes Go.WideShapes Go.ChangeAt Go.RowKit Go.Deep
set_option linter.unusedVariables false

section
variable {H : Type} {enc : TypeId × Value → H} {P : Program} {w W : World} {base b0 : Nat} {spare : Nat → Bool} {held : Bool} {r : Reach} {t e : TypeId} {v : Value} {d : DataW H} {p : List MemPlace}
/-- A row of things that came in, one by one. -/
theorem open_rows {α : Type} (f : α → List Value) (z : α) (k : Nat) (hk : 0 < k) (hf : ∀ x, (f x).length = k) (Q : α → Prop) {fuel : Nat} {cs : List Value} {x : DataW H × List MemPlace} (ht : P.underlying t = some (.slice e)) (hC : P.cellsOf e = k)
    (hQ : ∀ n cs y, n < fuel → cs.length = k → DataW.trod enc P w base spare held n e cs = some y → ∃ x : α, cs = f x ∧ Q x)
    (h : DataW.trod enc P w base spare held fuel t cs = some x) : ∃ (A : Option Addr) (n c : Nat) (l : List α), cs = [.slice A n c] ∧ Shows w w.heap.size k A n (l.flatMap f) ∧ (∀ x ∈ l, Q x) ∧ (A = none → c = 0) ∧ n ≤ c ∧ c ≤ maxLen := by
  rcases DataW.trod_slice ht h with ⟨hcs, _⟩ | ⟨a, len, cap, elems, rest, n, hn, hcs, _, _, hl, hm, hlen, hi, _, _⟩
  · exact ⟨none, 0, 0, [], hcs, ⟨by simp, fun h => absurd h (by decide)⟩, by simp, fun _ => rfl, Nat.le_refl _, Nat.zero_le _⟩
  · have hF : ∀ i, ∃ r : α, i < len → Q r ∧ ∀ j u, (f r)[j]? = some u → w.cell? (a.add (i * k + j)) = some u := by
      intro i
      by_cases hin : i < len
      · have h2 := hi i hin
        rw [List.getElem?_eq_getElem (by rw [hlen]; exact hin)] at h2
        obtain ⟨cs', hc, htr⟩ := Option.bind_eq_some_iff.1 h2
        obtain ⟨_, hlen', hat⟩ := World.cells?_some hc
        rw [hC] at hlen' hat
        obtain ⟨r, rfl, hr⟩ := hQ n cs' _ (by omega) hlen' htr
        refine ⟨r, fun _ => ⟨hr, fun j u hu => ?_⟩⟩
        have hj : j < k := by have := (List.getElem?_eq_some_iff.1 hu).1; rw [hlen'] at this; exact this
        have := hat j hj
        rw [hu] at this
        rw [← this, ← Go.Deep.add_add]
      · exact ⟨z, fun h => absurd h hin⟩
    refine ⟨some a, len, cap, (List.range len).map fun i => Classical.choose (hF i), hcs, shows_rows f k hk hf _ fun i hi j u hu => (Classical.choose_spec (hF i) hi).2 j u hu, ?_, nofun, hl, hm⟩
    intro r hr
    obtain ⟨i, hi, rfl⟩ := List.mem_map.1 hr
    exact (Classical.choose_spec (hF i) (List.mem_range.1 hi)).1
theorem flat_one (l : List ByteArray) : l.flatMap (fun s => [Value.string s]) = l.map Value.string := by
  induction l with
  | nil => rfl
  | cons x l ih => rw [List.flatMap_cons, ih]; rfl
theorem open_keys {fuel : Nat} {cs : List Value} {x : DataW H × List MemPlace} (ht : P.underlying t = some (.slice e)) (hC : P.cellsOf e = 1) (he : P.underlying e = some .string) (h : DataW.trod enc P w base spare held fuel t cs = some x) :
    ∃ (A : Option Addr) (n c : Nat) (l : List ByteArray), cs = [.slice A n c] ∧ Shows w w.heap.size 1 A n (l.map Value.string) ∧ (∀ x ∈ l, x.size ≤ maxLen) ∧ (A = none → c = 0) ∧ n ≤ c ∧ c ≤ maxLen := by
  obtain ⟨A, n, c, l, h1, h2, h3⟩ := open_rows (fun s : ByteArray => [Value.string s]) ⟨#[]⟩ 1 (by decide) (fun _ => rfl) (fun s => s.size ≤ maxLen) ht hC (fun n cs y _ _ hy => by
    obtain ⟨s, e, _, hs⟩ := DataW.trod_string he hy
    exact ⟨s, e, hs⟩) h
  rw [flat_one] at h2
  exact ⟨A, n, c, l, h1, h2, h3⟩
variable {f0 f1 f2 f3 f4 : Field} {ek : TypeId}
/-- A value that came in. -/
theorem trod_value (ht : P.underlying t = some (.struct #[f0, f1, f2, f3, f4])) (hone : oneCellFields P #[f0, f1, f2, f3, f4] = true) (hC : P.cellsOf t = 5)
    (k0 : P.underlying f0.type = some (.int .i64)) (k1 : P.underlying f1.type = some (.int .i64)) (k2 : P.underlying f2.type = some .string) (k3 : P.underlying f3.type = some (.slice t)) (k4 : P.underlying f4.type = some (.slice ek)) (k5 : P.underlying ek = some .string) (hk : P.cellsOf ek = 1) :
    ∀ (fuel : Nat) (cs : List Value) (x : DataW H × List MemPlace), cs.length = 5 → DataW.trod enc P w base spare held fuel t cs = some x → ∃ T : VT, cs = T.cells ∧ Lie w w.heap.size T := by
  intro fuel
  induction fuel using Nat.strongRecOn with
  | ind fuel ih =>
    intro cs x hsz h
    match cs, hsz with
    | [c0, c1, c2, c3, c4], _ =>
      obtain ⟨xs, n, hn, hx, _, hlen, hg⟩ := DataW.trod_struct ht h
      obtain ⟨o0, q0⟩ := hone_of hone 0 f0 rfl
      obtain ⟨o1, q1⟩ := hone_of hone 1 f1 rfl
      obtain ⟨o2, q2⟩ := hone_of hone 2 f2 rfl
      obtain ⟨o3, q3⟩ := hone_of hone 3 f3 rfl
      obtain ⟨o4, q4⟩ := hone_of hone 4 f4 rfl
      match xs, hlen with
      | [y0, y1, y2, y3, y4], _ =>
        have hy0 : DataW.trod enc P w base spare held n f0.type [c0] = some y0 := by simpa [o0, q0] using hg 0 f0 rfl
        have hy1 : DataW.trod enc P w base spare held n f1.type [c1] = some y1 := by simpa [o1, q1] using hg 1 f1 rfl
        have hy2 : DataW.trod enc P w base spare held n f2.type [c2] = some y2 := by simpa [o2, q2] using hg 2 f2 rfl
        have hy3 : DataW.trod enc P w base spare held n f3.type [c3] = some y3 := by simpa [o3, q3] using hg 3 f3 rfl
        have hy4 : DataW.trod enc P w base spare held n f4.type [c4] = some y4 := by simpa [o4, q4] using hg 4 f4 rfl
        obtain ⟨z0, e0, _, w0⟩ := DataW.trod_int k0 hy0
        obtain ⟨z1, e1, _, w1⟩ := DataW.trod_int k1 hy1
        obtain ⟨s, e2, _, hs⟩ := DataW.trod_string k2 hy2
        obtain ⟨A3, n3, d3, l3, e3, hS3, hL3, a3, b3, m3⟩ := open_rows VT.cells (scV 0 0 ⟨#[]⟩) 5 (by decide) VT.cells_len (Lie w w.heap.size) k3 hC (fun n' cs' y hn' hl' hy' => ih n' (by omega) cs' y hl' hy') hy3
        obtain ⟨A4, n4, d4, l4, e4, hS4, hL4, a4, b4, m4⟩ := open_keys k4 hk k5 hy4
        simp at e0 e1 e2 e3 e4
        subst e0 e1 e2 e3 e4
        exact ⟨.mk z0 z1 s A3 n3 d3 A4 n4 d4 l4 l3, rfl, .mk hS3 hS4 ⟨w0, w1, hs, b3, m3, a3, b4, m4, a4, hL4⟩ hL3⟩
theorem came_value (ht : P.underlying t = some (.struct #[f0, f1, f2, f3, f4])) (hone : oneCellFields P #[f0, f1, f2, f3, f4] = true) (hC : P.cellsOf t = 5)
    (k0 : P.underlying f0.type = some (.int .i64)) (k1 : P.underlying f1.type = some (.int .i64)) (k2 : P.underlying f2.type = some .string) (k3 : P.underlying f3.type = some (.slice t)) (k4 : P.underlying f4.type = some (.slice ek)) (k5 : P.underlying ek = some .string) (hk : P.cellsOf ek = 1)
    (hv : Value.okWide P W r b0 t v) (h : DataW.Trod enc P w base spare held t v d p) : ∃ T : VT, v = T.agg ∧ Lie w w.heap.size T := by
  obtain ⟨cs, rfl, hsz⟩ := okWide_struct ht hv
  obtain ⟨fuel, hf⟩ := h
  obtain ⟨T, hT, hL⟩ := trod_value ht hone hC k0 k1 k2 k3 k4 k5 hk fuel cs.toList _ (by simpa using hsz.trans hC) (by simpa [Value.cells] using hf)
  refine ⟨T, ?_, hL⟩
  rw [← Array.toArray_toList (xs := cs), hT]
  cases T; rfl
theorem came_values {A : Option Addr} {n c : Nat} (hu : P.underlying e = some (.slice t)) (ht : P.underlying t = some (.struct #[f0, f1, f2, f3, f4])) (hone : oneCellFields P #[f0, f1, f2, f3, f4] = true) (hC : P.cellsOf t = 5)
    (k0 : P.underlying f0.type = some (.int .i64)) (k1 : P.underlying f1.type = some (.int .i64)) (k2 : P.underlying f2.type = some .string) (k3 : P.underlying f3.type = some (.slice t)) (k4 : P.underlying f4.type = some (.slice ek)) (k5 : P.underlying ek = some .string) (hk : P.cellsOf ek = 1)
    (h : DataW.Trod enc P w base spare held e (.slice A n c) d p) : ∃ l : List VT, Shows w w.heap.size 5 A n (l.flatMap VT.cells) ∧ (∀ T ∈ l, Lie w w.heap.size T) ∧ (A = none → c = 0) ∧ n ≤ c ∧ c ≤ maxLen := by
  obtain ⟨fuel, hf⟩ := h
  obtain ⟨A', n', c', l, hcs, h2, h3, h4⟩ := open_rows VT.cells (scV 0 0 ⟨#[]⟩) 5 (by decide) VT.cells_len (Lie w w.heap.size) hu hC (fun n' cs' y _ hl' hy' => trod_value ht hone hC k0 k1 k2 k3 k4 k5 hk n' cs' y hl' hy') hf
  simp [Value.cells] at hcs
  obtain ⟨rfl, rfl, rfl⟩ := hcs
  exact ⟨l, h2, h3, h4⟩
theorem came_keys {A : Option Addr} {n c : Nat} (hu : P.underlying t = some (.slice e)) (hC : P.cellsOf e = 1) (he : P.underlying e = some .string) (h : DataW.Trod enc P w base spare held t (.slice A n c) d p) :
    ∃ l : List ByteArray, Shows w w.heap.size 1 A n (l.map Value.string) ∧ (∀ x ∈ l, x.size ≤ maxLen) ∧ (A = none → c = 0) ∧ n ≤ c ∧ c ≤ maxLen := by
  obtain ⟨fuel, hf⟩ := h
  obtain ⟨A', n', c', l, hcs, h2, h3, h4⟩ := open_keys hu hC he hf
  simp [Value.cells] at hcs
  obtain ⟨rfl, rfl, rfl⟩ := hcs
  exact ⟨l, h2, h3, h4⟩
end
end Go.Proofs.YtnldiemggabdkaaDoor
