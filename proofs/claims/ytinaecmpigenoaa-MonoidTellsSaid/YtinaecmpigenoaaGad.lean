import Derived.Test.YtinaecmpigenoaaGaa
import Derived.Test.YtinaecmpigenoaaGac
import Derived.Deep.Slices
import Derived.Deep.Fields
import Derived.ChangeSame
import Derived.Lib.SmallJoins
import Derived.Test.YtinaecmpigenoaaGab
import Derived.RegionTactic
import Derived.Deep.RegionWith
import Derived.Laws.EntriesVeiled
import Derived.Deep.WholeRow
/-
  Arguments of layer 13: a reduction, a row, slices of them.
-/
namespace Go.Proofs.Ytinaecmpigenoaa
open Go.ChangeShapes Go.WideShapes Go.ChangeAt Go.RowKit Go.Deep
set_option linter.unusedVariables false

/-- A row, as it came in. -/
structure ItemT where
  A1 : Option Addr
  n1 : Nat
  c1 : Nat
  A2 : Option Addr
  n2 : Nat
  c2 : Nat
  b : Bool
  n : Int
def ItemT.cells (x : ItemT) : List Value := [.slice x.A1 x.n1 x.c1, .slice x.A2 x.n2 x.c2, .bool x.b, .int .i64 x.n]
def Items (w : World) (B : Nat) (A : Option Addr) (n : Nat) (l : List ItemT) : Prop := Shows w B 4 A n (l.flatMap ItemT.cells)

section
variable {H : Type} {enc : TypeId × Value → H} {P : Program} {w W : World} {base b0 : Nat} {spare : Nat → Bool} {held : Bool} {r : Reach} {t e : TypeId} {v : Value} {d : DataW H} {p : List MemPlace}
theorem red_of {c i hi lo le mo : Int} (k0 : (Lit.int .i64 c).wf = true) (k1 : (Lit.int .i64 i).wf = true) (k2 : (Lit.int .i64 hi).wf = true) (k3 : (Lit.int .u64 lo).wf = true) (k4 : (Lit.int .i64 le).wf = true) (k5 : (Lit.int .i64 mo).wf = true) :
    ∃ r : RedT, r.ok ∧ r.cells = [.int .i64 c, .int .i64 i, .int .i64 hi, .int .u64 lo, .int .i64 le, .int .i64 mo] := by
  obtain ⟨a1, a2, a3⟩ := hl_mk hi lo (wf_i64 k2) (wf_u64 k3)
  exact ⟨⟨c, i, hi * 18446744073709551616 + lo, le, mo⟩, ⟨wf_i64 k0, wf_i64 k1, a1, wf_i64 k4, wf_i64 k5⟩, by simp only [RedT.cells]; rw [a2, a3]⟩
/-- The six cells of a reduction that came in. -/
theorem red_cells {f0 f1 f2 f3 f4 f5 : Field} {fuel : Nat} {cs : List Value} {x : DataW H × List MemPlace} (ht : P.underlying t = some (.struct #[f0, f1, f2, f3, f4, f5])) (hone : oneCellFields P #[f0, f1, f2, f3, f4, f5] = true) (hC : P.cellsOf t = 6)
    (k0 : P.underlying f0.type = some (.int .i64)) (k1 : P.underlying f1.type = some (.int .i64)) (k2 : P.underlying f2.type = some (.int .i64)) (k3 : P.underlying f3.type = some (.int .u64)) (k4 : P.underlying f4.type = some (.int .i64)) (k5 : P.underlying f5.type = some (.int .i64))
    (hsz : cs.length = 6) (h : DataW.trod enc P w base spare held fuel t cs = some x) : ∃ r : RedT, r.ok ∧ cs = r.cells := by
  match cs, hsz with
  | [c0, c1, c2, c3, c4, c5], _ =>
    obtain ⟨xs, n, _, hx, _, hlen, hg⟩ := DataW.trod_struct ht h
    obtain ⟨o0, q0⟩ := hone_of hone 0 f0 rfl
    obtain ⟨o1, q1⟩ := hone_of hone 1 f1 rfl
    obtain ⟨o2, q2⟩ := hone_of hone 2 f2 rfl
    obtain ⟨o3, q3⟩ := hone_of hone 3 f3 rfl
    obtain ⟨o4, q4⟩ := hone_of hone 4 f4 rfl
    obtain ⟨o5, q5⟩ := hone_of hone 5 f5 rfl
    match xs, hlen with
    | [y0, y1, y2, y3, y4, y5], _ =>
      have hy0 : DataW.trod enc P w base spare held n f0.type [c0] = some y0 := by simpa [o0, q0] using hg 0 f0 rfl
      have hy1 : DataW.trod enc P w base spare held n f1.type [c1] = some y1 := by simpa [o1, q1] using hg 1 f1 rfl
      have hy2 : DataW.trod enc P w base spare held n f2.type [c2] = some y2 := by simpa [o2, q2] using hg 2 f2 rfl
      have hy3 : DataW.trod enc P w base spare held n f3.type [c3] = some y3 := by simpa [o3, q3] using hg 3 f3 rfl
      have hy4 : DataW.trod enc P w base spare held n f4.type [c4] = some y4 := by simpa [o4, q4] using hg 4 f4 rfl
      have hy5 : DataW.trod enc P w base spare held n f5.type [c5] = some y5 := by simpa [o5, q5] using hg 5 f5 rfl
      obtain ⟨z0, e0, _, w0⟩ := DataW.trod_int k0 hy0
      obtain ⟨z1, e1, _, w1⟩ := DataW.trod_int k1 hy1
      obtain ⟨z2, e2, _, w2⟩ := DataW.trod_int k2 hy2
      obtain ⟨z3, e3, _, w3⟩ := DataW.trod_int k3 hy3
      obtain ⟨z4, e4, _, w4⟩ := DataW.trod_int k4 hy4
      obtain ⟨z5, e5, _, w5⟩ := DataW.trod_int k5 hy5
      simp at e0 e1 e2 e3 e4 e5
      subst e0 e1 e2 e3 e4 e5
      obtain ⟨r, hr, hc⟩ := red_of w0 w1 w2 w3 w4 w5
      exact ⟨r, hr, hc.symm⟩
theorem slice_any {fuel : Nat} {x : DataW H × List MemPlace} (ht : P.underlying t = some (.slice e)) (h : DataW.trod enc P w base spare held fuel t [v] = some x) : ∃ A n c, v = .slice A n c := by
  rcases open_slice ht h with ⟨h0, _⟩ | ⟨a, len, cap, m, n, D, Pl, hcs, _⟩
  · exact ⟨none, 0, 0, by simpa using h0⟩
  · exact ⟨some a, len, cap, by simpa using hcs⟩
/-- The four cells of a row that came in. -/
theorem item_cells {f0 f1 f2 f3 : Field} {e0 e1 : TypeId} {fuel : Nat} {cs : List Value} {x : DataW H × List MemPlace} (ht : P.underlying t = some (.struct #[f0, f1, f2, f3])) (hone : oneCellFields P #[f0, f1, f2, f3] = true) (hC : P.cellsOf t = 4)
    (k0 : P.underlying f0.type = some (.slice e0)) (k1 : P.underlying f1.type = some (.slice e1)) (k2 : P.underlying f2.type = some .bool) (k3 : P.underlying f3.type = some (.int .i64))
    (hsz : cs.length = 4) (h : DataW.trod enc P w base spare held fuel t cs = some x) : ∃ x : ItemT, R64 x.n ∧ cs = x.cells := by
  match cs, hsz with
  | [c0, c1, c2, c3], _ =>
    obtain ⟨xs, n, _, hx, _, hlen, hg⟩ := DataW.trod_struct ht h
    obtain ⟨o0, q0⟩ := hone_of hone 0 f0 rfl
    obtain ⟨o1, q1⟩ := hone_of hone 1 f1 rfl
    obtain ⟨o2, q2⟩ := hone_of hone 2 f2 rfl
    obtain ⟨o3, q3⟩ := hone_of hone 3 f3 rfl
    match xs, hlen with
    | [y0, y1, y2, y3], _ =>
      have hy0 : DataW.trod enc P w base spare held n f0.type [c0] = some y0 := by simpa [o0, q0] using hg 0 f0 rfl
      have hy1 : DataW.trod enc P w base spare held n f1.type [c1] = some y1 := by simpa [o1, q1] using hg 1 f1 rfl
      have hy2 : DataW.trod enc P w base spare held n f2.type [c2] = some y2 := by simpa [o2, q2] using hg 2 f2 rfl
      have hy3 : DataW.trod enc P w base spare held n f3.type [c3] = some y3 := by simpa [o3, q3] using hg 3 f3 rfl
      obtain ⟨A1, n1, d1, rfl⟩ := slice_any k0 hy0
      obtain ⟨A2, n2, d2, rfl⟩ := slice_any k1 hy1
      obtain ⟨z2, e2, _⟩ := DataW.trod_bool k2 hy2
      obtain ⟨z3, e3, _, w3⟩ := DataW.trod_int k3 hy3
      simp at e2 e3
      subst e2 e3
      exact ⟨⟨A1, n1, d1, A2, n2, d2, z2, z3⟩, wf_i64 w3, rfl⟩
/-- A reduction that came in. -/
theorem came_red {f0 f1 f2 f3 f4 f5 : Field} (ht : P.underlying t = some (.struct #[f0, f1, f2, f3, f4, f5])) (hone : oneCellFields P #[f0, f1, f2, f3, f4, f5] = true) (hC : P.cellsOf t = 6)
    (k0 : P.underlying f0.type = some (.int .i64)) (k1 : P.underlying f1.type = some (.int .i64)) (k2 : P.underlying f2.type = some (.int .i64)) (k3 : P.underlying f3.type = some (.int .u64)) (k4 : P.underlying f4.type = some (.int .i64)) (k5 : P.underlying f5.type = some (.int .i64))
    (hv : Value.okWide P W r b0 t v) (h : DataW.Trod enc P w base spare held t v d p) : ∃ r : RedT, r.ok ∧ v = .agg #[.int .i64 r.c, .int .i64 r.i, .int .i64 (hiI r.v), .int .u64 (loI r.v), .int .i64 r.l, .int .i64 r.m] := by
  obtain ⟨cs, rfl, hsz⟩ := okWide_struct ht hv
  obtain ⟨fuel, hf⟩ := h
  obtain ⟨r, hr, hc⟩ := red_cells ht hone hC k0 k1 k2 k3 k4 k5 (cs := cs.toList) (by simpa using hsz.trans hC) (by simpa [Value.cells] using hf)
  refine ⟨r, hr, ?_⟩
  rw [← Array.toArray_toList (xs := cs), hc]
  rfl
/-- A row that came in. -/
theorem came_item {f0 f1 f2 f3 : Field} {e0 e1 : TypeId} (ht : P.underlying t = some (.struct #[f0, f1, f2, f3])) (hone : oneCellFields P #[f0, f1, f2, f3] = true) (hC : P.cellsOf t = 4)
    (k0 : P.underlying f0.type = some (.slice e0)) (k1 : P.underlying f1.type = some (.slice e1)) (k2 : P.underlying f2.type = some .bool) (k3 : P.underlying f3.type = some (.int .i64))
    (hv : Value.okWide P W r b0 t v) (h : DataW.Trod enc P w base spare held t v d p) : ∃ x : ItemT, R64 x.n ∧ v = .agg #[.slice x.A1 x.n1 x.c1, .slice x.A2 x.n2 x.c2, .bool x.b, .int .i64 x.n] := by
  obtain ⟨cs, rfl, hsz⟩ := okWide_struct ht hv
  obtain ⟨fuel, hf⟩ := h
  obtain ⟨r, hr, hc⟩ := item_cells ht hone hC k0 k1 k2 k3 (cs := cs.toList) (by simpa using hsz.trans hC) (by simpa [Value.cells] using hf)
  refine ⟨r, hr, ?_⟩
  rw [← Array.toArray_toList (xs := cs), hc]
  rfl
/-- A slice of reductions that came in. -/
theorem came_reds {f0 f1 f2 f3 f4 f5 : Field} {A : Option Addr} {n c : Nat} (ht : P.underlying t = some (.slice e)) (he : P.underlying e = some (.struct #[f0, f1, f2, f3, f4, f5])) (hone : oneCellFields P #[f0, f1, f2, f3, f4, f5] = true) (hC : P.cellsOf e = 6)
    (k0 : P.underlying f0.type = some (.int .i64)) (k1 : P.underlying f1.type = some (.int .i64)) (k2 : P.underlying f2.type = some (.int .i64)) (k3 : P.underlying f3.type = some (.int .u64)) (k4 : P.underlying f4.type = some (.int .i64)) (k5 : P.underlying f5.type = some (.int .i64))
    (h : DataW.Trod enc P w base spare held t (.slice A n c) d p) : ∃ l : List RedT, Reds w w.heap.size A n l ∧ (∀ r ∈ l, r.ok) ∧ (A = none → c = 0) ∧ n ≤ c ∧ c ≤ maxLen := by
  obtain ⟨fuel, hf⟩ := h
  rcases open_slice ht hf with ⟨hcs, _⟩ | ⟨a, len, cap, m, nn, D, Pl, hcs, _, hl, hm, hmm, _, hi⟩
  · simp [Value.cells] at hcs
    obtain ⟨rfl, rfl, rfl⟩ := hcs
    exact ⟨[], Shows.zero _, by simp, fun _ => rfl, Nat.le_refl _, by unfold maxLen; omega⟩
  · simp [Value.cells] at hcs
    obtain ⟨rfl, rfl, rfl⟩ := hcs
    have hnm : n ≤ m := by rw [hmm]; split <;> omega
    have hF : ∀ i, ∃ r : RedT, i < n → r.ok ∧ ∀ j u, r.cells[j]? = some u → w.cell? (a.add (i * 6 + j)) = some u := by
      intro i
      by_cases hin : i < n
      · obtain ⟨cs, hc, htr⟩ := hi i (by omega)
        obtain ⟨_, hlen, hat⟩ := World.cells?_some hc
        rw [hC] at hlen hat
        obtain ⟨r, hr, rfl⟩ := red_cells he hone hC k0 k1 k2 k3 k4 k5 hlen htr
        refine ⟨r, fun _ => ⟨hr, fun j u hu => ?_⟩⟩
        have hj : j < 6 := by have := (List.getElem?_eq_some_iff.1 hu).1; rw [hlen] at this; exact this
        have := hat j hj
        rw [hu] at this
        rw [← this, ← Go.Deep.add_add]
      · exact ⟨RedT.zero, fun h => absurd h hin⟩
    refine ⟨(List.range n).map fun i => Classical.choose (hF i), shows_rows RedT.cells 6 (by omega) (fun _ => rfl) _ fun i hi j u hu => (Classical.choose_spec (hF i) hi).2 j u hu, ?_, nofun, hl, hm⟩
    intro r hr
    obtain ⟨i, hi, rfl⟩ := List.mem_map.1 hr
    exact (Classical.choose_spec (hF i) (List.mem_range.1 hi)).1
/-- A slice of rows that came in. -/
theorem came_items {f0 f1 f2 f3 : Field} {e0 e1 : TypeId} {A : Option Addr} {n c : Nat} (ht : P.underlying t = some (.slice e)) (he : P.underlying e = some (.struct #[f0, f1, f2, f3])) (hone : oneCellFields P #[f0, f1, f2, f3] = true) (hC : P.cellsOf e = 4)
    (k0 : P.underlying f0.type = some (.slice e0)) (k1 : P.underlying f1.type = some (.slice e1)) (k2 : P.underlying f2.type = some .bool) (k3 : P.underlying f3.type = some (.int .i64))
    (h : DataW.Trod enc P w base spare held t (.slice A n c) d p) : ∃ l : List ItemT, Items w w.heap.size A n l ∧ (∀ r ∈ l, R64 r.n) ∧ (A = none → c = 0) ∧ n ≤ c ∧ c ≤ maxLen := by
  obtain ⟨fuel, hf⟩ := h
  rcases open_slice ht hf with ⟨hcs, _⟩ | ⟨a, len, cap, m, nn, D, Pl, hcs, _, hl, hm, hmm, _, hi⟩
  · simp [Value.cells] at hcs
    obtain ⟨rfl, rfl, rfl⟩ := hcs
    exact ⟨[], Shows.zero _, by simp, fun _ => rfl, Nat.le_refl _, by unfold maxLen; omega⟩
  · simp [Value.cells] at hcs
    obtain ⟨rfl, rfl, rfl⟩ := hcs
    have hnm : n ≤ m := by rw [hmm]; split <;> omega
    have hF : ∀ i, ∃ r : ItemT, i < n → R64 r.n ∧ ∀ j u, r.cells[j]? = some u → w.cell? (a.add (i * 4 + j)) = some u := by
      intro i
      by_cases hin : i < n
      · obtain ⟨cs, hc, htr⟩ := hi i (by omega)
        obtain ⟨_, hlen, hat⟩ := World.cells?_some hc
        rw [hC] at hlen hat
        obtain ⟨r, hr, rfl⟩ := item_cells he hone hC k0 k1 k2 k3 hlen htr
        refine ⟨r, fun _ => ⟨hr, fun j u hu => ?_⟩⟩
        have hj : j < 4 := by have := (List.getElem?_eq_some_iff.1 hu).1; rw [hlen] at this; exact this
        have := hat j hj
        rw [hu] at this
        rw [← this, ← Go.Deep.add_add]
      · exact ⟨⟨none, 0, 0, none, 0, 0, false, 0⟩, fun h => absurd h hin⟩
    refine ⟨(List.range n).map fun i => Classical.choose (hF i), shows_rows ItemT.cells 4 (by omega) (fun _ => rfl) _ fun i hi j u hu => (Classical.choose_spec (hF i) hi).2 j u hu, ?_, nofun, hl, hm⟩
    intro r hr
    obtain ⟨i, hi, rfl⟩ := List.mem_map.1 hr
    exact (Classical.choose_spec (hF i) (List.mem_range.1 hi)).1
end
end Go.Proofs.Ytinaecmpigenoaa
/-
  Layer 13: the law MonoidChecks, walked.
-/
namespace Go.Proofs.Ytinaecmpigenoaa
open Go.RowKit
attribute [local go_sem ↓] Go.wp_at_zero Go.wp_at_succ

theorem check_agg (c i v le mo : Int) (w : World) (hv : R128 v) (hle : R64 le) (hmo : R64 mo) :
    Calls Try.prog 9 #[.agg #[.int .i64 c, .int .i64 i, .int .i64 (hiI v), .int .u64 (loI v), .int .i64 le, .int .i64 mo]] w fun e w' => e = .returned (.int .i64 (redE c i v le mo)) ∧ Below w.heap.size w w' := mcheck_any c i v le mo w hv hle hmo
theorem check_yes (c i v le mo : Int) (w : World) (hv : R128 v) (hle : R64 le) (hmo : R64 mo) (h : validB c i v le mo = true) :
    Calls Try.prog 9 #[.agg #[.int .i64 c, .int .i64 i, .int .i64 (hiI v), .int .u64 (loI v), .int .i64 le, .int .i64 mo]] w fun e w' => e = .returned (.int .i64 0) ∧ Below w.heap.size w w' := by
  have := check_agg c i v le mo w hv hle hmo
  unfold redE at this
  rw [if_pos h] at this
  exact this
theorem check_no (c i v le mo : Int) (w : World) (hv : R128 v) (hle : R64 le) (hmo : R64 mo) (h : validB c i v le mo = false) :
    Calls Try.prog 9 #[.agg #[.int .i64 c, .int .i64 i, .int .i64 (hiI v), .int .u64 (loI v), .int .i64 le, .int .i64 mo]] w fun e w' => e = .returned (.int .i64 230) ∧ Below w.heap.size w w' := by
  have := check_agg c i v le mo w hv hle hmo
  unfold redE at this
  rw [if_neg (by rw [h]; simp)] at this
  exact this
theorem right_yes (c i v le mo : Int) (w : World) (hv : R128 v) (hle : R64 le) (hmo : R64 mo) (h : validB c i v le mo = true) :
    Calls Try.prog 10 #[.agg #[.int .i64 c, .int .i64 i, .int .i64 (hiI v), .int .u64 (loI v), .int .i64 le, .int .i64 mo]] w fun e w' => e = .returned (.bool true) ∧ Below w.heap.size w w' := by
  rw [← h]; exact mright_any c i v le mo w hv hle hmo
theorem right_no (c i v le mo : Int) (w : World) (hv : R128 v) (hle : R64 le) (hmo : R64 mo) (h : validB c i v le mo = false) :
    Calls Try.prog 10 #[.agg #[.int .i64 c, .int .i64 i, .int .i64 (hiI v), .int .u64 (loI v), .int .i64 le, .int .i64 mo]] w fun e w' => e = .returned (.bool false) ∧ Below w.heap.size w w' := by
  rw [← h]; exact mright_any c i v le mo w hv hle hmo
/-- One's number of numbers and sum. -/
def o1 (b : Bool) : Int := if b then 1 else 0
def oN (b : Bool) (n : Int) : Int := if b then n else 0
theorem one_row (b : Bool) (n : Int) : oneV b n = .agg #[.int .i64 1, .int .i64 (o1 b), .int .i64 (hiI (oN b n)), .int .u64 (loI (oN b n)), .int .i64 (oN b n), .int .i64 (oN b n)] := by
  cases b <;> rfl
theorem one_valid (b : Bool) (n : Int) : validB 1 (o1 b) (oN b n) (oN b n) (oN b n) = true := by
  cases b
  · rfl
  · simp [validB, o1, oN]
theorem one_agg (x : ItemT) (w : World) (hn : R64 x.n) :
    Calls Try.prog 11 #[.agg #[.slice x.A1 x.n1 x.c1, .slice x.A2 x.n2 x.c2, .bool x.b, .int .i64 x.n]] w fun e w' => e = .returned (.agg #[.int .i64 1, .int .i64 (o1 x.b), .int .i64 (hiI (oN x.b x.n)), .int .u64 (loI (oN x.b x.n)), .int .i64 (oN x.b x.n), .int .i64 (oN x.b x.n)]) ∧ Below w.heap.size w w' := by
  rw [← one_row]; exact one_any x.A1 x.n1 x.c1 x.A2 x.n2 x.c2 x.b x.n w hn
theorem refOne_agg (x : ItemT) (w : World) (hn : R64 x.n) :
    Calls Try.prog 12 #[.agg #[.slice x.A1 x.n1 x.c1, .slice x.A2 x.n2 x.c2, .bool x.b, .int .i64 x.n]] w fun e w' => e = .returned (.agg #[.int .i64 1, .int .i64 (o1 x.b), .int .i64 (hiI (oN x.b x.n)), .int .u64 (loI (oN x.b x.n)), .int .i64 (oN x.b x.n), .int .i64 (oN x.b x.n)]) ∧ Below w.heap.size w w' := by
  rw [← one_row]; exact refOne_any x.A1 x.n1 x.c1 x.A2 x.n2 x.c2 x.b x.n w hn
theorem oN_r64 (b : Bool) (n : Int) (h : R64 n) : R64 (oN b n) ∧ R128 (oN b n) := by
  unfold R64 at h
  unfold oN R64 R128
  cases b <;> simp <;> omega

set_option maxRecDepth 100000 in
set_option maxHeartbeats 4000000 in
theorem checks_yes (hwk0 : ∀ W : World, Calls Try.prog 8 #[] W fun e w' => e = .returned (.bool true) ∧ Below W.heap.size W w') (w : World) (c i v le mo : Int) (hv : R128 v) (hle : R64 le) (hmo : R64 mo) (hval : validB c i v le mo = true) (x : ItemT) (hx : R64 x.n) :
    Calls Try.prog 3 #[.agg #[.int .i64 c, .int .i64 i, .int .i64 (hiI v), .int .u64 (loI v), .int .i64 le, .int .i64 mo], .agg #[.slice x.A1 x.n1 x.c1, .slice x.A2 x.n2 x.c2, .bool x.b, .int .i64 x.n]] w fun e w' => e = .returned (.bool true) ∧ Below w.heap.size w w' := by
  have hwk := Lib.hid hwk0
  obtain ⟨hox, hox2⟩ := oN_r64 x.b x.n hx
  have hone := Lib.hid (one_valid x.b x.n)
  have Hval := Lib.hid hval
  clear hval hwk0
  go_enter Try.func3, Try.ntmps3
  go_wp2_with fail
  refine (hwk.out _).mono ?_
  rintro e w1 ⟨rfl, hb1⟩
  go_upto_region 3 with fail
  have s1 : Six w1 w.heap.size _ _ _ _ _ _ := ((Six.new w (.int .i64 c) (.int .i64 i) (.int .i64 (hiI v)) (.int .u64 (loI v)) (.int .i64 le) (.int .i64 mo) 24).alloc _).below hb1 rfl
  have i0 : w1.cell? ⟨w.heap.size + 1, 0, none⟩ = some (.slice x.A1 x.n1 x.c1) := by
    have := mnew_later hb1 0 rfl
    simpa using this
  have i1 : w1.cell? ⟨w.heap.size + 1, 1, none⟩ = some (.slice x.A2 x.n2 x.c2) := by
    have := mnew_later hb1 1 rfl
    simpa using this
  have i2 : w1.cell? ⟨w.heap.size + 1, 2, none⟩ = some (.bool x.b) := by
    have := mnew_later hb1 2 rfl
    simpa using this
  have i3 : w1.cell? ⟨w.heap.size + 1, 3, none⟩ = some (.int .i64 x.n) := by
    have := mnew_later hb1 3 rfl
    simpa using this
  have hb1 : Below w.heap.size w w1 := (((Below.refl _ _).alloc (Nat.le_refl _) _).alloc (by simp) _).trans (hb1.mono (by simp; omega))
  obtain ⟨⟨r0, r1, r2, r3, r4, r5⟩, -⟩ := s1
  have c0 : ∀ W, Below w1.heap.size w1 W → W.cell? ⟨w.heap.size, 0, none⟩ = some (.int .i64 c) := fun W h => mkept_later h r0
  have c1 : ∀ W, Below w1.heap.size w1 W → W.cell? ⟨w.heap.size, 1, none⟩ = some (.int .i64 i) := fun W h => mkept_later h r1
  have c2 : ∀ W, Below w1.heap.size w1 W → W.cell? ⟨w.heap.size, 2, none⟩ = some (.int .i64 (hiI v)) := fun W h => mkept_later h r2
  have c3 : ∀ W, Below w1.heap.size w1 W → W.cell? ⟨w.heap.size, 3, none⟩ = some (.int .u64 (loI v)) := fun W h => mkept_later h r3
  have c4 : ∀ W, Below w1.heap.size w1 W → W.cell? ⟨w.heap.size, 4, none⟩ = some (.int .i64 le) := fun W h => mkept_later h r4
  have c5 : ∀ W, Below w1.heap.size w1 W → W.cell? ⟨w.heap.size, 5, none⟩ = some (.int .i64 mo) := fun W h => mkept_later h r5
  have d0 : ∀ W, Below w1.heap.size w1 W → W.cell? ⟨w.heap.size + 1, 0, none⟩ = some (.slice x.A1 x.n1 x.c1) := fun W h => mkept_later h i0
  have d1 : ∀ W, Below w1.heap.size w1 W → W.cell? ⟨w.heap.size + 1, 1, none⟩ = some (.slice x.A2 x.n2 x.c2) := fun W h => mkept_later h i1
  have d2 : ∀ W, Below w1.heap.size w1 W → W.cell? ⟨w.heap.size + 1, 2, none⟩ = some (.bool x.b) := fun W h => mkept_later h i2
  have d3 : ∀ W, Below w1.heap.size w1 W → W.cell? ⟨w.heap.size + 1, 3, none⟩ = some (.int .i64 x.n) := fun W h => mkept_later h i3
  clear r0 r1 r2 r3 r4 r5 i0 i1 i2 i3
  have hS0 : Below w1.heap.size w1 w1 := Below.refl _ _
  have hS1 : Below w1.heap.size w1 w1.drew := (Below.refl _ _).drew
  go_region_with (first
    | (go_at_call 9; with_reducible refine (check_yes c i v le mo _ hv hle hmo Hval.out).mono ?_; rintro e wA ⟨rfl, hbA⟩; have hSA := mS_call hbA (by assumption) rfl)
    | (go_at_call 10; with_reducible refine (right_yes c i v le mo _ hv hle hmo Hval.out).mono ?_; rintro e wB ⟨rfl, hbB⟩; have hSB := mS_call hbB (by assumption) rfl)
    | (go_at_call 11; with_reducible refine (one_agg x _ hx).mono ?_; rintro e wC ⟨rfl, hbC⟩; have hSC := mS_call hbC (by assumption) rfl)
    | (go_at_call 12; with_reducible refine (refOne_agg x _ hx).mono ?_; rintro e wD ⟨rfl, hbD⟩; have hSD := mS_call hbD (by assumption) rfl)
    | (go_at_call 9; with_reducible refine (check_yes _ _ _ _ _ _ hox2 hox hox hone.out).mono ?_; rintro e wE ⟨rfl, hbE⟩; have hSE := mS_call hbE (by assumption) rfl))
  all_goals
    go_wp2
    go_ret
    exact ⟨rfl, hb1.trans (Below.mono (B := w1.heap.size) (by assumption) hb1.size)⟩
set_option maxRecDepth 100000 in
set_option maxHeartbeats 4000000 in
theorem checks_no (hwk0 : ∀ W : World, Calls Try.prog 8 #[] W fun e w' => e = .returned (.bool true) ∧ Below W.heap.size W w') (w : World) (c i v le mo : Int) (hv : R128 v) (hle : R64 le) (hmo : R64 mo) (hval : validB c i v le mo = false) (x : ItemT) (hx : R64 x.n) :
    Calls Try.prog 3 #[.agg #[.int .i64 c, .int .i64 i, .int .i64 (hiI v), .int .u64 (loI v), .int .i64 le, .int .i64 mo], .agg #[.slice x.A1 x.n1 x.c1, .slice x.A2 x.n2 x.c2, .bool x.b, .int .i64 x.n]] w fun e w' => e = .returned (.bool true) ∧ Below w.heap.size w w' := by
  have hwk := Lib.hid hwk0
  obtain ⟨hox, hox2⟩ := oN_r64 x.b x.n hx
  have hone := Lib.hid (one_valid x.b x.n)
  have Hval := Lib.hid hval
  clear hval hwk0
  go_enter Try.func3, Try.ntmps3
  go_wp2_with fail
  refine (hwk.out _).mono ?_
  rintro e w1 ⟨rfl, hb1⟩
  go_upto_region 3 with fail
  have s1 : Six w1 w.heap.size _ _ _ _ _ _ := ((Six.new w (.int .i64 c) (.int .i64 i) (.int .i64 (hiI v)) (.int .u64 (loI v)) (.int .i64 le) (.int .i64 mo) 24).alloc _).below hb1 rfl
  have i0 : w1.cell? ⟨w.heap.size + 1, 0, none⟩ = some (.slice x.A1 x.n1 x.c1) := by
    have := mnew_later hb1 0 rfl
    simpa using this
  have i1 : w1.cell? ⟨w.heap.size + 1, 1, none⟩ = some (.slice x.A2 x.n2 x.c2) := by
    have := mnew_later hb1 1 rfl
    simpa using this
  have i2 : w1.cell? ⟨w.heap.size + 1, 2, none⟩ = some (.bool x.b) := by
    have := mnew_later hb1 2 rfl
    simpa using this
  have i3 : w1.cell? ⟨w.heap.size + 1, 3, none⟩ = some (.int .i64 x.n) := by
    have := mnew_later hb1 3 rfl
    simpa using this
  have hb1 : Below w.heap.size w w1 := (((Below.refl _ _).alloc (Nat.le_refl _) _).alloc (by simp) _).trans (hb1.mono (by simp; omega))
  obtain ⟨⟨r0, r1, r2, r3, r4, r5⟩, -⟩ := s1
  have c0 : ∀ W, Below w1.heap.size w1 W → W.cell? ⟨w.heap.size, 0, none⟩ = some (.int .i64 c) := fun W h => mkept_later h r0
  have c1 : ∀ W, Below w1.heap.size w1 W → W.cell? ⟨w.heap.size, 1, none⟩ = some (.int .i64 i) := fun W h => mkept_later h r1
  have c2 : ∀ W, Below w1.heap.size w1 W → W.cell? ⟨w.heap.size, 2, none⟩ = some (.int .i64 (hiI v)) := fun W h => mkept_later h r2
  have c3 : ∀ W, Below w1.heap.size w1 W → W.cell? ⟨w.heap.size, 3, none⟩ = some (.int .u64 (loI v)) := fun W h => mkept_later h r3
  have c4 : ∀ W, Below w1.heap.size w1 W → W.cell? ⟨w.heap.size, 4, none⟩ = some (.int .i64 le) := fun W h => mkept_later h r4
  have c5 : ∀ W, Below w1.heap.size w1 W → W.cell? ⟨w.heap.size, 5, none⟩ = some (.int .i64 mo) := fun W h => mkept_later h r5
  have d0 : ∀ W, Below w1.heap.size w1 W → W.cell? ⟨w.heap.size + 1, 0, none⟩ = some (.slice x.A1 x.n1 x.c1) := fun W h => mkept_later h i0
  have d1 : ∀ W, Below w1.heap.size w1 W → W.cell? ⟨w.heap.size + 1, 1, none⟩ = some (.slice x.A2 x.n2 x.c2) := fun W h => mkept_later h i1
  have d2 : ∀ W, Below w1.heap.size w1 W → W.cell? ⟨w.heap.size + 1, 2, none⟩ = some (.bool x.b) := fun W h => mkept_later h i2
  have d3 : ∀ W, Below w1.heap.size w1 W → W.cell? ⟨w.heap.size + 1, 3, none⟩ = some (.int .i64 x.n) := fun W h => mkept_later h i3
  clear r0 r1 r2 r3 r4 r5 i0 i1 i2 i3
  go_region_held3 (fun w' => Below w1.heap.size w1 w') (first | assumption | exact (Below.refl _ _).drew | (refine mS_call ?_ ?_ ?_; assumption; assumption; rfl)) (first
    | (go_at_call 9; with_reducible refine (check_no c i v le mo _ hv hle hmo Hval.out).mono ?_; rintro e wA ⟨rfl, hbA⟩; have hSA := mS_call hbA (by assumption) rfl)
    | (go_at_call 10; with_reducible refine (right_no c i v le mo _ hv hle hmo Hval.out).mono ?_; rintro e wB ⟨rfl, hbB⟩; have hSB := mS_call hbB (by assumption) rfl)
    | (go_at_call 11; with_reducible refine (one_agg x _ hx).mono ?_; rintro e wC ⟨rfl, hbC⟩; have hSC := mS_call hbC (by assumption) rfl)
    | (go_at_call 12; with_reducible refine (refOne_agg x _ hx).mono ?_; rintro e wD ⟨rfl, hbD⟩; have hSD := mS_call hbD (by assumption) rfl)
    | (go_at_call 9; with_reducible refine (check_yes _ _ _ _ _ _ hox2 hox hox hone.out).mono ?_; rintro e wE ⟨rfl, hbE⟩; have hSE := mS_call hbE (by assumption) rfl))
  all_goals
    go_wp2
    go_ret
    exact ⟨rfl, hb1.trans (Below.mono (B := w1.heap.size) (by assumption) hb1.size)⟩
theorem checks_walk (hwk : ∀ W : World, Calls Try.prog 8 #[] W fun e w' => e = .returned (.bool true) ∧ Below W.heap.size W w') (w : World) (r : RedT) (hr : r.ok) (x : ItemT) (hx : R64 x.n) :
    Calls Try.prog 3 #[.agg #[.int .i64 r.c, .int .i64 r.i, .int .i64 (hiI r.v), .int .u64 (loI r.v), .int .i64 r.l, .int .i64 r.m], .agg #[.slice x.A1 x.n1 x.c1, .slice x.A2 x.n2 x.c2, .bool x.b, .int .i64 x.n]] w fun e w' => e = .returned (.bool true) ∧ Below w.heap.size w w' := by
  have hval : validB r.c r.i r.v r.l r.m = true ∨ validB r.c r.i r.v r.l r.m = false := by cases validB r.c r.i r.v r.l r.m <;> simp
  rcases hval with hval | hval
  · exact checks_yes hwk w r.c r.i r.v r.l r.m hr.2.2.1 hr.2.2.2.1 hr.2.2.2.2 hval x hx
  · exact checks_no hwk w r.c r.i r.v r.l r.m hr.2.2.1 hr.2.2.2.1 hr.2.2.2.2 hval x hx
end Go.Proofs.Ytinaecmpigenoaa
/-
  The reduction of rows, one by one. No program in sight.
-/
namespace Go.Proofs.Ytinaecmpigenoaa
open Go.RowKit

def ItemT.one (x : ItemT) : RedT := ⟨1, o1 x.b, oN x.b x.n, oN x.b x.n, oN x.b x.n⟩
def allR (l : List ItemT) : RedT := l.foldl (fun a x => a.join x.one) RedT.zero
theorem allR_nil : allR [] = RedT.zero := rfl
theorem allR_snoc (l : List ItemT) (x : ItemT) : allR (l ++ [x]) = (allR l).join x.one := by unfold allR; rw [List.foldl_append]; rfl
theorem one_is (x : ItemT) : x.one.valid = true := one_valid x.b x.n
theorem one_ok (x : ItemT) (h : R64 x.n) : x.one.ok := by
  obtain ⟨h1, h2⟩ := oN_r64 x.b x.n h
  refine ⟨?_, ?_, h2, h1, h1⟩
  · show R64 1; unfold R64; omega
  · show R64 (o1 x.b); unfold R64 o1; cases x.b <;> simp

theorem valid_iff (c i v le mo : Int) : validB c i v le mo = true ↔ (0 ≤ c ∧ c ≤ 1073741824 ∧ 0 ≤ i ∧ i ≤ c) ∧ ((i = 0 ∧ v = 0 ∧ le = 0 ∧ mo = 0) ∨ (i = 1 ∧ le = mo ∧ v = le) ∨ (2 ≤ i ∧ le ≤ mo ∧ le + mo + le * (i - 2) ≤ v ∧ v ≤ le + mo + mo * (i - 2))) := by
  rcases valid_cases c i v le mo with ⟨h, hr⟩ | ⟨h, hr⟩ | ⟨h, hr⟩ | ⟨h, hr⟩ | ⟨h, hr⟩ | ⟨h, hr⟩ | ⟨h, hr⟩
  · rw [hr]; simp only [Bool.false_eq_true, false_iff]; intro hh; omega
  · rw [hr]; simp only [Bool.false_eq_true, false_iff]; intro hh; omega
  · rw [hr]; simp only [Bool.false_eq_true, false_iff]; intro hh; omega
  · rw [hr]; simp only [Bool.false_eq_true, false_iff]; intro hh; omega
  · rw [hr, decide_eq_true_iff]
    constructor
    · intro hh; exact ⟨by omega, .inl ⟨h.2, hh⟩⟩
    · rintro ⟨_, ⟨_, hh⟩ | ⟨hi, _⟩ | ⟨hi, _⟩⟩
      · exact hh
      · omega
      · omega
  · rw [hr, decide_eq_true_iff]
    constructor
    · intro hh; exact ⟨by omega, .inr (.inl ⟨h.2.2, hh⟩)⟩
    · rintro ⟨_, ⟨hi, _⟩ | ⟨_, hh⟩ | ⟨hi, _⟩⟩
      · omega
      · exact hh
      · omega
  · rw [hr]
    simp only [Bool.and_eq_true, decide_eq_true_iff]
    constructor
    · intro hh; exact ⟨by omega, .inr (.inr ⟨h.2.1, hh⟩)⟩
    · rintro ⟨_, ⟨hi, _⟩ | ⟨hi, _⟩ | ⟨_, hh⟩⟩
      · omega
      · omega
      · exact hh
/-- One number more. -/
theorem join_one_valid (a : RedT) (x : ItemT) (h : a.valid = true) (hc : a.c + 1 ≤ 1073741824) : (a.join x.one).valid = true := by
  obtain ⟨c, i, v, le, mo⟩ := a
  unfold RedT.valid at h ⊢
  rw [valid_iff] at h ⊢
  simp only at h hc
  obtain ⟨⟨h1, h2, h3, h4⟩, h⟩ := h
  cases hb : x.b
  · simp only [RedT.join, ItemT.one, hb, o1, oN, jL, jM]
    refine ⟨by simp; omega, ?_⟩
    rcases h with ⟨h, hv, hl, hm⟩ | ⟨h, hl, hv⟩ | ⟨h, hl, hv, hw⟩
    · left; subst h hv hl hm; simp
    · right; left; subst h; simp [hl, hv]
    · right; right
      have hi0 : ¬ i = 0 := by omega
      simp [hi0]
      exact ⟨by omega, hl, hv, hw⟩
  · simp only [RedT.join, ItemT.one, hb, o1, oN, jL, jM]
    refine ⟨by simp; omega, ?_⟩
    rcases h with ⟨h, hv, hl, hm⟩ | ⟨h, hl, hv⟩ | ⟨h, hl, hv, hw⟩
    · right; left; subst h hv hl hm; simp
    · right; right; subst h; simp; omega
    · right; right
      have hi0 : ¬ i = 0 := by omega
      simp [hi0]
      have e : i + 1 - 2 = (i - 2) + 1 := by omega
      have hk : 0 ≤ i - 2 := by omega
      rw [e]
      generalize i - 2 = k at *
      rw [Int.mul_add, Int.mul_add, Int.mul_one, Int.mul_one]
      have m1 : min le x.n * k ≤ le * k := Int.mul_le_mul_of_nonneg_right (by omega) hk
      have m2 : mo * k ≤ max mo x.n * k := Int.mul_le_mul_of_nonneg_right (by omega) hk
      generalize le * k = p at *
      generalize mo * k = q at *
      generalize min le x.n * k = p' at *
      generalize max mo x.n * k = q' at *
      omega
theorem jL_r64 (i1 i2 l1 l2 : Int) (h1 : R64 l1) (h2 : R64 l2) : R64 (jL i1 i2 l1 l2) := by
  unfold R64 jL at *
  split
  · exact h2
  · split
    · exact h1
    · omega
theorem jM_r64 (i1 i2 l1 l2 : Int) (h1 : R64 l1) (h2 : R64 l2) : R64 (jM i1 i2 l1 l2) := by
  unfold R64 jM at *
  split
  · exact h2
  · split
    · exact h1
    · omega
/-- What is known of the reduction of rows. -/
structure AllOk (l : List ItemT) (a : RedT) : Prop where
  cnt : a.c = l.length
  valid : a.valid = true
  low : -9223372036854775808 * (l.length : Int) ≤ a.v
  high : a.v ≤ 9223372036854775808 * (l.length : Int)
  least : R64 a.l
  most : R64 a.m
theorem allOk_snoc (l : List ItemT) (x : ItemT) (hx : R64 x.n) (hl : l.length < 1000) (h : AllOk l (allR l)) : AllOk (l ++ [x]) (allR (l ++ [x])) := by
  rw [allR_snoc]
  have hv := join_one_valid (allR l) x h.valid (by rw [h.cnt]; omega)
  obtain ⟨h1, h2, h3, h4, h5, h6⟩ := h
  generalize allR l = a at *
  have hn := (oN_r64 x.b x.n hx).1
  have hn' := hn
  unfold R64 at hn'
  refine ⟨?_, hv, ?_, ?_, ?_, ?_⟩
  · simp [RedT.join, ItemT.one, h1]
  · simp [RedT.join, ItemT.one]; omega
  · simp [RedT.join, ItemT.one]; omega
  · exact jL_r64 _ _ _ _ h5 hn
  · exact jM_r64 _ _ _ _ h6 hn
theorem allOk (l : List ItemT) (hx : ∀ x ∈ l, R64 x.n) (hl : l.length ≤ 1000) : AllOk l (allR l) := by
  have key : ∀ k, k ≤ l.length → AllOk (l.take k) (allR (l.take k)) := by
    intro k
    induction k with
    | zero => intro _; exact ⟨rfl, by rfl, by simp [allR, RedT.zero], by simp [allR, RedT.zero], by unfold allR RedT.zero R64; simp, by unfold allR RedT.zero R64; simp⟩
    | succ k ih =>
      intro hk
      rw [List.take_succ_eq_append_getElem (by omega)]
      exact allOk_snoc _ _ (hx _ (List.getElem_mem _)) (by simp; omega) (ih (by omega))
  have := key l.length (Nat.le_refl _)
  rwa [List.take_length] at this
theorem AllOk.ok {l : List ItemT} {a : RedT} (h : AllOk l a) (hl : l.length ≤ 1000) : a.ok := by
  obtain ⟨⟨b1, b2⟩, b3, b4⟩ := valid_bounds a h.valid
  have := h.low
  have := h.high
  refine ⟨?_, ?_, ?_, h.least, h.most⟩
  · unfold R64; omega
  · unfold R64; omega
  · unfold R128; omega
/-- What Join makes of two. -/
theorem zero_join (a : RedT) : RedT.zero.join a = a := by
  obtain ⟨c, i, v, le, mo⟩ := a
  simp [RedT.join, RedT.zero, jL, jM]
theorem jall_two (a r : RedT) (ha : a.valid = true) (hr : r.valid = true) (hc : a.c + r.c ≤ 1073741824) : jall [a, r] = (a.join r, 0) := by
  have hb := (valid_bounds a ha).1
  unfold jall
  rw [if_pos (by simp [ha, hr])]
  show (if 1073741824 - 0 < a.c then _ else (if 1073741824 - (RedT.zero.join a).c < r.c then _ else (((RedT.zero.join a).join r), 0))) = _
  rw [zero_join, if_neg (by omega), if_neg (by omega)]
theorem reds_two (w : World) (a r : RedT) (t : TypeId) : Reds (w.alloc (.cells #[.int .i64 a.c, .int .i64 a.i, .int .i64 (hiI a.v), .int .u64 (loI a.v), .int .i64 a.l, .int .i64 a.m, .int .i64 r.c, .int .i64 r.i, .int .i64 (hiI r.v), .int .u64 (loI r.v), .int .i64 r.l, .int .i64 r.m] t)) (w.heap.size + 1) (some ⟨w.heap.size, 0, none⟩) 2 [a, r] := by
  have hcells : ∀ (j : Nat) (u : Value), ([a, r].flatMap RedT.cells)[j]? = some u → (#[.int .i64 a.c, .int .i64 a.i, .int .i64 (hiI a.v), .int .u64 (loI a.v), .int .i64 a.l, .int .i64 a.m, .int .i64 r.c, .int .i64 r.i, .int .i64 (hiI r.v), .int .u64 (loI r.v), .int .i64 r.l, .int .i64 r.m] : Array Value)[j]? = some u := by
    intro j u hu
    simpa [RedT.cells] using hu
  refine ⟨rfl, fun _ => ⟨w.heap.size, 0, rfl, by omega, fun j u hu => ?_⟩⟩
  rw [Nat.zero_add]
  exact (World.cell?_alloc_new w _ t j).trans (hcells j u hu)
end Go.Proofs.Ytinaecmpigenoaa
/-
  What the reduction of rows says of the rows. No program in sight.
-/
namespace Go.Proofs.Ytinaecmpigenoaa
open Go.RowKit

def metB (l : List ItemT) (v : Int) : Bool := l.any fun x => x.b && (x.n == v)
theorem snoc_ind {P : List ItemT → Prop} (h0 : P []) (hs : ∀ l x, P l → P (l ++ [x])) : ∀ l, P l := by
  intro l
  have key : ∀ k, k ≤ l.length → P (l.take k) := by
    intro k
    induction k with
    | zero => intro _; exact h0
    | succ k ih =>
      intro hk
      rw [List.take_succ_eq_append_getElem (by omega)]
      exact hs _ _ (ih (by omega))
  have := key l.length (Nat.le_refl _)
  rwa [List.take_length] at this
/-- The rows' reduction: no number, no ends; else both ends bound and are met. -/
structure Ends (l : List ItemT) (a : RedT) : Prop where
  pos : 0 ≤ a.i
  none : a.i = 0 → a.v = 0 ∧ a.l = 0 ∧ a.m = 0 ∧ ∀ x ∈ l, x.b = false
  low : ∀ x ∈ l, x.b = true → a.l ≤ x.n ∧ x.n ≤ a.m
  least : 0 < a.i → metB l a.l = true
  most : 0 < a.i → metB l a.m = true
theorem metB_snoc (l : List ItemT) (x : ItemT) (v : Int) : metB (l ++ [x]) v = (metB l v || (x.b && (x.n == v))) := by
  unfold metB
  rw [List.any_append]
  simp
theorem ends (l : List ItemT) : Ends l (allR l) := by
  refine snoc_ind (P := fun l => Ends l (allR l)) ?_ ?_ l
  · exact ⟨by decide, fun _ => ⟨rfl, rfl, rfl, by simp⟩, by simp, fun h => absurd h (by decide), fun h => absurd h (by decide)⟩
  · intro l x h
    rw [allR_snoc]
    obtain ⟨h1, h2, h3, h4, h5⟩ := h
    generalize allR l = a at *
    obtain ⟨c, i, v, le, mo⟩ := a
    simp only at h1 h2 h3 h4 h5
    cases hb : x.b
    · have e : (⟨c, i, v, le, mo⟩ : RedT).join x.one = ⟨c + 1, i, v, le, mo⟩ := by
        simp only [RedT.join, ItemT.one, hb, o1, oN, jL, jM]
        by_cases hi : i = 0
        · obtain ⟨-, hl, hm, -⟩ := h2 hi
          simp [hi, hl, hm]
        · simp [hi]
      rw [e]
      refine ⟨h1, fun hi => ?_, ?_, fun hi => ?_, fun hi => ?_⟩
      · obtain ⟨k1, k2, k3, k4⟩ := h2 hi
        refine ⟨k1, k2, k3, fun y hy => ?_⟩
        rcases List.mem_append.1 hy with hy | hy
        · exact k4 y hy
        · simp at hy; rw [hy, hb]
      · intro y hy hyb
        rcases List.mem_append.1 hy with hy | hy
        · exact h3 y hy hyb
        · simp at hy; rw [hy, hb] at hyb; cases hyb
      · rw [metB_snoc, h4 hi]; rfl
      · rw [metB_snoc, h5 hi]; rfl
    · have e : (⟨c, i, v, le, mo⟩ : RedT).join x.one = ⟨c + 1, i + 1, v + x.n, if i = 0 then x.n else min le x.n, if i = 0 then x.n else max mo x.n⟩ := by
        simp [RedT.join, ItemT.one, hb, o1, oN, jL, jM]
      rw [e]
      refine ⟨by simp only; omega, fun hi => absurd hi (by simp only; omega), ?_, fun _ => ?_, fun _ => ?_⟩
      · intro y hy hyb
        simp only
        rcases List.mem_append.1 hy with hy | hy
        · have := h3 y hy hyb
          by_cases hi : i = 0
          · have := (h2 hi).2.2.2 y hy
            rw [this] at hyb
            cases hyb
          · rw [if_neg hi, if_neg hi]; omega
        · simp at hy
          rw [hy]
          by_cases hi : i = 0
          · rw [if_pos hi, if_pos hi]; omega
          · rw [if_neg hi, if_neg hi]; omega
      · rw [metB_snoc, hb]
        simp only
        by_cases hi : i = 0
        · rw [if_pos hi]; simp
        · rw [if_neg hi]
          by_cases hn : le ≤ x.n
          · rw [show min le x.n = le by omega, h4 (by omega)]; rfl
          · rw [show min le x.n = x.n by omega]; simp
      · rw [metB_snoc, hb]
        simp only
        by_cases hi : i = 0
        · rw [if_pos hi]; simp
        · rw [if_neg hi]
          by_cases hn : x.n ≤ mo
          · rw [show max mo x.n = mo by omega, h5 (by omega)]; rfl
          · rw [show max mo x.n = x.n by omega]; simp
theorem allR_count (l : List ItemT) : (allR l).i ≤ l.length ∧ (allR l).c = l.length := by
  refine snoc_ind (P := fun l => (allR l).i ≤ l.length ∧ (allR l).c = l.length) ⟨by decide, rfl⟩ ?_ l
  intro l x h
  rw [allR_snoc]
  have : 0 ≤ o1 x.b ∧ o1 x.b ≤ 1 := by unfold o1; cases x.b <;> simp
  simp [RedT.join, ItemT.one]
  omega
theorem take_snocI {l : List ItemT} {k : Nat} {x : ItemT} (hx : l[k]? = some x) : l.take (k + 1) = l.take k ++ [x] := by
  have hk : k < l.length := (List.getElem?_eq_some_iff.1 hx).1
  have e : l[k] = x := (List.getElem?_eq_some_iff.1 hx).2
  rw [List.take_succ_eq_append_getElem hk, e]
theorem allR_i_snoc (l : List ItemT) (x : ItemT) : (allR (l ++ [x])).i = (allR l).i + o1 x.b := by rw [allR_snoc]; rfl
end Go.Proofs.Ytinaecmpigenoaa
/-
  Joining is associative and commutative: rows in parts. No program in sight.
-/
namespace Go.Proofs.Ytinaecmpigenoaa
open Go.RowKit

/-- No numbers, no ends. -/
def Norm (r : RedT) : Prop := 0 ≤ r.i ∧ (r.i = 0 → r.l = 0 ∧ r.m = 0)
theorem norm_zero : Norm RedT.zero := ⟨by decide, fun _ => ⟨rfl, rfl⟩⟩
theorem norm_valid (r : RedT) (h : r.valid = true) : Norm r := by
  unfold RedT.valid at h
  rw [valid_iff] at h
  unfold Norm
  omega
theorem norm_one (x : ItemT) : Norm x.one := norm_valid _ (one_is x)
theorem norm_join (a b : RedT) (ha : Norm a) (hb : Norm b) : Norm (a.join b) := by
  obtain ⟨a1, a2⟩ := ha
  obtain ⟨b1, b2⟩ := hb
  refine ⟨by simp only [RedT.join]; omega, fun h => ?_⟩
  simp only [RedT.join] at h ⊢
  have h1 : a.i = 0 := by omega
  have h2 : b.i = 0 := by omega
  simp [jL, jM, h1, b2 h2]
theorem join_comm (a b : RedT) (ha : Norm a) (hb : Norm b) : a.join b = b.join a := by
  obtain ⟨a1, a2⟩ := ha
  obtain ⟨b1, b2⟩ := hb
  obtain ⟨c1, i1, v1, l1, m1⟩ := a
  obtain ⟨c2, i2, v2, l2, m2⟩ := b
  simp only at a1 a2 b1 b2
  simp only [RedT.join, jL, jM, RedT.mk.injEq]
  refine ⟨by omega, by omega, by omega, ?_, ?_⟩
  · by_cases h1 : i1 = 0 <;> by_cases h2 : i2 = 0 <;> simp [h1, h2] <;> first | (have := a2 h1; have := b2 h2; omega) | omega
  · by_cases h1 : i1 = 0 <;> by_cases h2 : i2 = 0 <;> simp [h1, h2] <;> first | (have := a2 h1; have := b2 h2; omega) | omega
theorem join_assoc (a b c : RedT) (ha : Norm a) (hb : Norm b) (hc : Norm c) : (a.join b).join c = a.join (b.join c) := by
  obtain ⟨a1, a2⟩ := ha
  obtain ⟨b1, b2⟩ := hb
  obtain ⟨d1, d2⟩ := hc
  obtain ⟨c1, i1, v1, l1, m1⟩ := a
  obtain ⟨c2, i2, v2, l2, m2⟩ := b
  obtain ⟨c3, i3, v3, l3, m3⟩ := c
  simp only at a1 a2 b1 b2 d1 d2
  simp only [RedT.join, jL, jM, RedT.mk.injEq]
  refine ⟨by omega, by omega, by omega, ?_, ?_⟩
  all_goals
    by_cases h1 : i1 = 0
    · by_cases h2 : i2 = 0
      · subst h1 h2; simp
      · subst h1; simp [h2]
    · have h12 : ¬ i1 + i2 = 0 := by omega
      by_cases h2 : i2 = 0
      · subst h2; simp [h1]
      · have h23 : ¬ i2 + i3 = 0 := by omega
        by_cases h3 : i3 = 0
        · subst h3; simp [h1, h2, h12]
        · simp only [if_neg h1, if_neg h2, if_neg h3, if_neg h12, if_neg h23]; omega
theorem join_zero (a : RedT) (ha : Norm a) : a.join RedT.zero = a := by rw [join_comm a _ ha norm_zero, zero_join]
theorem norm_all (l : List ItemT) : Norm (allR l) := by
  have key : ∀ k, k ≤ l.length → Norm (allR (l.take k)) := by
    intro k
    induction k with
    | zero => intro _; exact norm_zero
    | succ k ih =>
      intro hk
      rw [List.take_succ_eq_append_getElem (by omega), allR_snoc]
      exact norm_join _ _ (ih (by omega)) (norm_one _)
  have := key l.length (Nat.le_refl _)
  rwa [List.take_length] at this
theorem allR_append (l m : List ItemT) : allR (l ++ m) = (allR l).join (allR m) := by
  have key : ∀ k, k ≤ m.length → allR (l ++ m.take k) = (allR l).join (allR (m.take k)) := by
    intro k
    induction k with
    | zero => intro _; simp only [List.take_zero, List.append_nil]; exact (join_zero _ (norm_all l)).symm
    | succ k ih =>
      intro hk
      rw [List.take_succ_eq_append_getElem (by omega), ← List.append_assoc, allR_snoc, ih (by omega), allR_snoc, join_assoc _ _ _ (norm_all _) (norm_all _) (norm_one _)]
  have := key m.length (Nat.le_refl _)
  rwa [List.take_length] at this
/-- The fold of parts. -/
def foldR (ps : List RedT) : RedT := ps.foldl RedT.join RedT.zero
theorem foldR_from (ps : List RedT) : ∀ a, Norm a → (∀ p ∈ ps, Norm p) → ps.foldl RedT.join a = a.join (foldR ps) := by
  induction ps with
  | nil => intro a ha _; exact (join_zero a ha).symm
  | cons p ps ih =>
    intro a ha hp
    have hn := hp p List.mem_cons_self
    have hps : ∀ q ∈ ps, Norm q := fun q hq => hp q (List.mem_cons_of_mem _ hq)
    have hf : Norm (foldR ps) := by
      have : ∀ (l : List RedT) (b : RedT), Norm b → (∀ q ∈ l, Norm q) → Norm (l.foldl RedT.join b) := by
        intro l
        induction l with
        | nil => intro b hb _; exact hb
        | cons q l ih2 => intro b hb hq; exact ih2 _ (norm_join _ _ hb (hq q List.mem_cons_self)) (fun r hr => hq r (List.mem_cons_of_mem _ hr))
      exact this ps _ norm_zero hps
    show ps.foldl RedT.join (a.join p) = a.join (ps.foldl RedT.join (RedT.zero.join p))
    rw [zero_join, ih _ (norm_join _ _ ha hn) hps, ih p hn hps, join_assoc _ _ _ ha hn hf]
theorem foldR_cons (p : RedT) (ps : List RedT) (hp : Norm p) (hps : ∀ q ∈ ps, Norm q) : foldR (p :: ps) = p.join (foldR ps) := by
  show ps.foldl RedT.join (RedT.zero.join p) = _
  rw [zero_join, foldR_from ps p hp hps]
theorem foldR_snoc (ps : List RedT) (p : RedT) : foldR (ps ++ [p]) = (foldR ps).join p := by unfold foldR; rw [List.foldl_append]; rfl
theorem norm_fold (ps : List RedT) (hps : ∀ q ∈ ps, Norm q) : Norm (foldR ps) := by
  have : ∀ (l : List RedT) (b : RedT), Norm b → (∀ q ∈ l, Norm q) → Norm (l.foldl RedT.join b) := by
    intro l
    induction l with
    | nil => intro b hb _; exact hb
    | cons q l ih2 => intro b hb hq; exact ih2 _ (norm_join _ _ hb (hq q List.mem_cons_self)) (fun r hr => hq r (List.mem_cons_of_mem _ hr))
  exact this ps _ norm_zero hps
/-- Join of parts that are few enough. -/
theorem fold_c (ps : List RedT) : ∀ a, (∀ p ∈ ps, 0 ≤ p.c) → a.c ≤ (ps.foldl RedT.join a).c := by
  induction ps with
  | nil => intro a _; exact Int.le_refl _
  | cons p ps ih =>
    intro a h
    have h1 := h p List.mem_cons_self
    have h2 := ih (a.join p) (fun q hq => h q (List.mem_cons_of_mem _ hq))
    show a.c ≤ (ps.foldl RedT.join (a.join p)).c
    have h3 : (a.join p).c = a.c + p.c := rfl
    omega
theorem jrun_fold (ps : List RedT) : ∀ a, (∀ p ∈ ps, 0 ≤ p.c) → (ps.foldl RedT.join a).c ≤ 1073741824 → jrun ps a = (ps.foldl RedT.join a, 0) := by
  induction ps with
  | nil => intro a _ _; rfl
  | cons p ps ih =>
    intro a h hc
    have hc' : (ps.foldl RedT.join (a.join p)).c ≤ 1073741824 := hc
    have hq := fun q hq => h q (List.mem_cons_of_mem _ hq)
    have h2 := fold_c ps (a.join p) hq
    have h3 : (a.join p).c = a.c + p.c := rfl
    show (if 1073741824 - a.c < p.c then (RedT.zero, 5) else jrun ps (a.join p)) = (ps.foldl RedT.join (a.join p), 0)
    rw [if_neg (by omega)]
    exact ih _ hq hc'
theorem jall_fold (ps : List RedT) (hv : ∀ p ∈ ps, p.valid = true) (hc : (foldR ps).c ≤ 1073741824) : jall ps = (foldR ps, 0) := by
  rw [jall_of ps (List.all_eq_true.2 hv)]
  exact jrun_fold ps _ (fun p hp => (valid_bounds p (hv p hp)).1.1) hc
/-- Part and zero behind, or part ahead: the fold of what has been taken. -/
theorem fold_behind (ps : List RedT) (L : List ItemT) (d k : Nat) (h : foldR ps = allR (L.take d)) : foldR (ps ++ [allR ((L.drop d).take k), RedT.zero]) = allR (L.take (d + k)) := by
  have e : ps ++ [allR ((L.drop d).take k), RedT.zero] = (ps ++ [allR ((L.drop d).take k)]) ++ [RedT.zero] := by simp
  rw [e, foldR_snoc, foldR_snoc, h, ← allR_append, join_zero _ (norm_all _), ← List.take_add]
theorem fold_ahead (ps : List RedT) (L : List ItemT) (d k : Nat) (hp : ∀ p ∈ ps, Norm p) (h : foldR ps = allR (L.take d)) : foldR (allR ((L.drop d).take k) :: ps) = allR (L.take (d + k)) := by
  rw [foldR_cons _ _ (norm_all _) hp, h, join_comm _ _ (norm_all _) (norm_all _), ← allR_append, ← List.take_add]
theorem fold_last (ps : List RedT) (L : List ItemT) (d : Nat) (h : foldR ps = allR (L.take d)) : foldR (ps ++ [allR (L.drop d)]) = allR L := by
  rw [foldR_snoc, h, ← allR_append, List.take_append_drop]
end Go.Proofs.Ytinaecmpigenoaa
/-
  Layer 13, plain: rows of whole numbers, and of their opposites.
-/
namespace Go.Proofs.Ytinaecmpigenoaa
open Go.RowKit
set_option linter.unusedVariables false

/-- A row of a whole number. -/
def nItem (n : Int) : ItemT := ⟨none, 0, 0, none, 0, 0, true, n⟩
def negR (a : RedT) : RedT := ⟨a.c, a.i, -a.v, -a.m, -a.l⟩
theorem snoc_indI {P : List Int → Prop} (h0 : P []) (hs : ∀ l x, P l → P (l ++ [x])) (l : List Int) : P l := by
  have key : ∀ k, k ≤ l.length → P (l.take k) := by
    intro k
    induction k with
    | zero => intro _; rw [List.take_zero]; exact h0
    | succ k ih =>
      intro hk
      rw [List.take_succ_eq_append_getElem (by omega)]
      exact hs _ _ (ih (by omega))
  have := key l.length (Nat.le_refl _)
  rwa [List.take_length] at this
theorem allR_neg (l : List Int) : allR (l.map fun n => nItem (-n)) = negR (allR (l.map nItem)) := by
  refine snoc_indI (P := fun l => allR (l.map fun n => nItem (-n)) = negR (allR (l.map nItem))) ?_ ?_ l
  · rfl
  · intro l n h
    rw [List.map_append, List.map_append, List.map_singleton, List.map_singleton, allR_snoc, allR_snoc, h]
    generalize allR (l.map nItem) = a
    obtain ⟨c, i, v, le, mo⟩ := a
    simp only [negR, RedT.join, ItemT.one, nItem, o1, oN, if_true, jL, jM, RedT.mk.injEq]
    refine ⟨trivial, trivial, by omega, ?_, ?_⟩
    all_goals (split <;> (try split) <;> omega)
/-- Numbers and their opposites together. -/
theorem join_neg (a : RedT) (ha : Norm a) : (a.join (negR a)).v = 0 ∧ (a.join (negR a)).l = -(a.join (negR a)).m := by
  obtain ⟨c, i, v, le, mo⟩ := a
  obtain ⟨h0, h1⟩ := ha
  simp only at h0 h1
  simp only [negR, RedT.join, jL, jM]
  refine ⟨by omega, ?_⟩
  split
  · rename_i h
    obtain ⟨h2, h3⟩ := h1 h
    omega
  · omega
theorem turned_all (l : List Int) : (allR ((l.map nItem) ++ (l.map fun n => nItem (-n)))).v = 0 ∧ (allR ((l.map nItem) ++ (l.map fun n => nItem (-n)))).l = -(allR ((l.map nItem) ++ (l.map fun n => nItem (-n)))).m := by
  rw [allR_append, allR_neg]
  exact join_neg _ (norm_all _)
/-- Rows of small numbers: the sum, and that each row counts. -/
theorem allR_small (l : List Int) (h : ∀ n ∈ l, -2147483648 ≤ n ∧ n < 2147483648) : (allR (l.map nItem)).v = l.sum ∧ (allR (l.map nItem)).i = l.length ∧ (allR (l.map nItem)).c = l.length ∧ -(2147483648 * (l.length : Int)) ≤ l.sum ∧ l.sum ≤ 2147483648 * (l.length : Int) := by
  revert h
  refine snoc_indI (P := fun l => (∀ n ∈ l, -2147483648 ≤ n ∧ n < 2147483648) → (allR (l.map nItem)).v = l.sum ∧ (allR (l.map nItem)).i = l.length ∧ (allR (l.map nItem)).c = l.length ∧ -(2147483648 * (l.length : Int)) ≤ l.sum ∧ l.sum ≤ 2147483648 * (l.length : Int)) ?_ ?_ l
  · intro _
    exact ⟨rfl, rfl, rfl, by decide, by decide⟩
  · intro l n ih h
    obtain ⟨h1, h2, h3, h4, h5⟩ := ih fun x hx => h x (List.mem_append_left _ hx)
    obtain ⟨b1, b2⟩ := h n (List.mem_append_right _ (List.mem_singleton.2 rfl))
    rw [List.map_append, List.map_singleton, allR_snoc, List.sum_append, List.length_append]
    simp only [RedT.join, ItemT.one, nItem, o1, oN, if_true, List.sum_cons, List.sum_nil, List.length_cons, List.length_nil]
    refine ⟨by omega, by omega, by omega, by omega, by omega⟩
end Go.Proofs.Ytinaecmpigenoaa
/-
  Package monoid: the kinds.
-/
namespace Go.Proofs.Ytinaecmpigenoaa
open Go.RowKit
attribute [local go_sem ↓] Go.wp_at_zero Go.wp_at_succ

/-- Is there a kind of that number? -/
def knownB (k : Int) : Bool := decide (1 ≤ k ∧ k ≤ 5)
theorem known_any (k : Int) (w : World) : Calls Try.prog 33 #[.int .i64 k] w fun e w' => e = .returned (.bool (knownB k)) ∧ Below w.heap.size w w' := by
  unfold knownB
  by_cases h1 : 1 ≤ k
  · by_cases h2 : k ≤ 5
    · rw [decide_eq_true ⟨h1, h2⟩]
      go_enter Try.func33, Try.ntmps33
      go_wp2
      go_ret
      exact ⟨rfl, Below.refl _ _⟩
    · rw [decide_eq_false (fun h => h2 h.2)]
      go_enter Try.func33, Try.ntmps33
      go_wp2
      go_ret
      exact ⟨rfl, Below.refl _ _⟩
  · rw [decide_eq_false (fun h => h1 h.1)]
    go_enter Try.func33, Try.ntmps33
    go_wp2
    go_ret
    exact ⟨rfl, Below.refl _ _⟩

/-- A number as a value. -/
def numV (n : Int) : Value := .agg #[.int .i64 3, .int .i64 n, .string ⟨#[]⟩, .slice none 0 0, .slice none 0 0]
theorem number_any (n : Int) (w : World) : Calls Try.prog 44 #[.int .i64 n] w fun e w' => e = .returned (numV n) ∧ Below w.heap.size w w' := by
  go_enter Try.func44, Try.ntmps44
  go_wp2
  exact bodyPost_ret (v := numV n) (by simp [results, Try.results44, go_sem]; rfl) rfl ⟨rfl, (Below.refl _ _).alloc (Nat.le_refl _) _⟩

theorem kinds_any (w : World) : Calls Try.prog 34 #[] w fun e w' => e = .returned (.agg #[.string ⟨#[]⟩, .bool false, .nilFunc, .string ⟨#[95, 99, 111, 117, 110, 116]⟩, .bool false, .func (.func 43) #[] #[], .string ⟨#[95, 115, 117, 109]⟩, .bool true, .func (.func 45) #[] #[], .string ⟨#[95, 109, 105, 110]⟩, .bool false, .func (.func 46) #[] #[], .string ⟨#[95, 109, 97, 120]⟩, .bool false, .func (.func 48) #[] #[], .string ⟨#[95, 115, 116, 97, 116, 115]⟩, .bool true, .func (.func 49) #[] #[]]) ∧ Below w.heap.size w w' := by
  have hi : (Try.prog.info? 81).map (·.size) = some 18 := by kernel_rfl
  have hsc := run_storeCells_new (P := Try.prog) w 81 #[.string ⟨#[]⟩, .bool false, .nilFunc, .string ⟨#[]⟩, .bool false, .nilFunc, .string ⟨#[]⟩, .bool false, .nilFunc, .string ⟨#[]⟩, .bool false, .nilFunc, .string ⟨#[]⟩, .bool false, .nilFunc, .string ⟨#[]⟩, .bool false, .nilFunc] #[.string ⟨#[]⟩, .bool false, .nilFunc, .string ⟨#[95, 99, 111, 117, 110, 116]⟩, .bool false, .func (.func 43) #[] #[], .string ⟨#[95, 115, 117, 109]⟩, .bool true, .func (.func 45) #[] #[], .string ⟨#[95, 109, 105, 110]⟩, .bool false, .func (.func 46) #[] #[], .string ⟨#[95, 109, 97, 120]⟩, .bool false, .func (.func 48) #[] #[], .string ⟨#[95, 115, 116, 97, 116, 115]⟩, .bool true, .func (.func 49) #[] #[]] hi rfl (by simp [Value.oneCell'])
  have hu : Try.prog.underlying 81 = some (.array 6 80) := by kernel_rfl
  go_enter Try.func34, Try.ntmps34
  go_wp2
  refine bodyPost_ret (v := .agg #[.string ⟨#[]⟩, .bool false, .nilFunc, .string ⟨#[95, 99, 111, 117, 110, 116]⟩, .bool false, .func (.func 43) #[] #[], .string ⟨#[95, 115, 117, 109]⟩, .bool true, .func (.func 45) #[] #[], .string ⟨#[95, 109, 105, 110]⟩, .bool false, .func (.func 46) #[] #[], .string ⟨#[95, 109, 97, 120]⟩, .bool false, .func (.func 48) #[] #[], .string ⟨#[95, 115, 116, 97, 116, 115]⟩, .bool true, .func (.func 49) #[] #[]]) ?_ rfl ⟨rfl, (Below.refl _ _).alloc (Nat.le_refl _) _⟩
  exact results_cell_row (P := Try.prog) (p := 0) (ty := 81) rfl _ _ w.heap.size 81 _ (0, 0) _ rfl (heap_alloc_last w _) hu rfl hi
end Go.Proofs.Ytinaecmpigenoaa
