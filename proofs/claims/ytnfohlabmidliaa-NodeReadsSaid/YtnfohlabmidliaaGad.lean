import Derived.Test.YtnfohlabmidliaaGac
import Derived.Deep.Slices
import Derived.Deep.Fields
import Derived.ChangeSame
import Derived.Lib.SmallJoins
import Derived.Test.YtnfohlabmidliaaGab
import Derived.Test.YtnfohlabmidliaaGaa
import Derived.Test.YtnfohlabmidliaaRows
import Derived.Deep.Modes
import Derived.Deep.Strs
/-
  Arguments of layer 13: a reduction, a row, slices of them.
-/
namespace Go.Proofs.Ytnfohlabmidliaa
open Go.ChangeShapes Go.WideShapes Go.ChangeAt Go.RowKit Go.Deep
set_option linter.unusedVariables false

/-- A row, as it came in. -/
structure ItemT where
  A1 : Option Addr
  n1 : Nat
  c1 : Nat
  A2 : Option Addr
  n2 : Nat
  c2 : Nat
  b : Bool
  n : Int
def ItemT.cells (x : ItemT) : List Value := [.slice x.A1 x.n1 x.c1, .slice x.A2 x.n2 x.c2, .bool x.b, .int .i64 x.n]
def Items (w : World) (B : Nat) (A : Option Addr) (n : Nat) (l : List ItemT) : Prop := Shows w B 4 A n (l.flatMap ItemT.cells)

section
variable {H : Type} {enc : TypeId × Value → H} {P : Program} {w W : World} {base b0 : Nat} {spare : Nat → Bool} {held : Bool} {r : Reach} {t e : TypeId} {v : Value} {d : DataW H} {p : List MemPlace}
theorem red_of {c i hi lo le mo : Int} (k0 : (Lit.int .i64 c).wf = true) (k1 : (Lit.int .i64 i).wf = true) (k2 : (Lit.int .i64 hi).wf = true) (k3 : (Lit.int .u64 lo).wf = true) (k4 : (Lit.int .i64 le).wf = true) (k5 : (Lit.int .i64 mo).wf = true) :
    ∃ r : RedT, r.ok ∧ r.cells = [.int .i64 c, .int .i64 i, .int .i64 hi, .int .u64 lo, .int .i64 le, .int .i64 mo] := by
  obtain ⟨a1, a2, a3⟩ := hl_mk hi lo (wf_i64 k2) (wf_u64 k3)
  exact ⟨⟨c, i, hi * 18446744073709551616 + lo, le, mo⟩, ⟨wf_i64 k0, wf_i64 k1, a1, wf_i64 k4, wf_i64 k5⟩, by simp only [RedT.cells]; rw [a2, a3]⟩
/-- The six cells of a reduction that came in. -/
theorem red_cells {f0 f1 f2 f3 f4 f5 : Field} {fuel : Nat} {cs : List Value} {x : DataW H × List MemPlace} (ht : P.underlying t = some (.struct #[f0, f1, f2, f3, f4, f5])) (hone : oneCellFields P #[f0, f1, f2, f3, f4, f5] = true) (hC : P.cellsOf t = 6)
    (k0 : P.underlying f0.type = some (.int .i64)) (k1 : P.underlying f1.type = some (.int .i64)) (k2 : P.underlying f2.type = some (.int .i64)) (k3 : P.underlying f3.type = some (.int .u64)) (k4 : P.underlying f4.type = some (.int .i64)) (k5 : P.underlying f5.type = some (.int .i64))
    (hsz : cs.length = 6) (h : DataW.trod enc P w base spare held fuel t cs = some x) : ∃ r : RedT, r.ok ∧ cs = r.cells := by
  match cs, hsz with
  | [c0, c1, c2, c3, c4, c5], _ =>
    obtain ⟨xs, n, _, hx, _, hlen, hg⟩ := DataW.trod_struct ht h
    obtain ⟨o0, q0⟩ := hone_of hone 0 f0 rfl
    obtain ⟨o1, q1⟩ := hone_of hone 1 f1 rfl
    obtain ⟨o2, q2⟩ := hone_of hone 2 f2 rfl
    obtain ⟨o3, q3⟩ := hone_of hone 3 f3 rfl
    obtain ⟨o4, q4⟩ := hone_of hone 4 f4 rfl
    obtain ⟨o5, q5⟩ := hone_of hone 5 f5 rfl
    match xs, hlen with
    | [y0, y1, y2, y3, y4, y5], _ =>
      have hy0 : DataW.trod enc P w base spare held n f0.type [c0] = some y0 := by simpa [o0, q0] using hg 0 f0 rfl
      have hy1 : DataW.trod enc P w base spare held n f1.type [c1] = some y1 := by simpa [o1, q1] using hg 1 f1 rfl
      have hy2 : DataW.trod enc P w base spare held n f2.type [c2] = some y2 := by simpa [o2, q2] using hg 2 f2 rfl
      have hy3 : DataW.trod enc P w base spare held n f3.type [c3] = some y3 := by simpa [o3, q3] using hg 3 f3 rfl
      have hy4 : DataW.trod enc P w base spare held n f4.type [c4] = some y4 := by simpa [o4, q4] using hg 4 f4 rfl
      have hy5 : DataW.trod enc P w base spare held n f5.type [c5] = some y5 := by simpa [o5, q5] using hg 5 f5 rfl
      obtain ⟨z0, e0, _, w0⟩ := DataW.trod_int k0 hy0
      obtain ⟨z1, e1, _, w1⟩ := DataW.trod_int k1 hy1
      obtain ⟨z2, e2, _, w2⟩ := DataW.trod_int k2 hy2
      obtain ⟨z3, e3, _, w3⟩ := DataW.trod_int k3 hy3
      obtain ⟨z4, e4, _, w4⟩ := DataW.trod_int k4 hy4
      obtain ⟨z5, e5, _, w5⟩ := DataW.trod_int k5 hy5
      simp at e0 e1 e2 e3 e4 e5
      subst e0 e1 e2 e3 e4 e5
      obtain ⟨r, hr, hc⟩ := red_of w0 w1 w2 w3 w4 w5
      exact ⟨r, hr, hc.symm⟩
theorem slice_any {fuel : Nat} {x : DataW H × List MemPlace} (ht : P.underlying t = some (.slice e)) (h : DataW.trod enc P w base spare held fuel t [v] = some x) : ∃ A n c, v = .slice A n c := by
  rcases open_slice ht h with ⟨h0, _⟩ | ⟨a, len, cap, m, n, D, Pl, hcs, _⟩
  · exact ⟨none, 0, 0, by simpa using h0⟩
  · exact ⟨some a, len, cap, by simpa using hcs⟩
/-- The four cells of a row that came in. -/
theorem item_cells {f0 f1 f2 f3 : Field} {e0 e1 : TypeId} {fuel : Nat} {cs : List Value} {x : DataW H × List MemPlace} (ht : P.underlying t = some (.struct #[f0, f1, f2, f3])) (hone : oneCellFields P #[f0, f1, f2, f3] = true) (hC : P.cellsOf t = 4)
    (k0 : P.underlying f0.type = some (.slice e0)) (k1 : P.underlying f1.type = some (.slice e1)) (k2 : P.underlying f2.type = some .bool) (k3 : P.underlying f3.type = some (.int .i64))
    (hsz : cs.length = 4) (h : DataW.trod enc P w base spare held fuel t cs = some x) : ∃ x : ItemT, R64 x.n ∧ cs = x.cells := by
  match cs, hsz with
  | [c0, c1, c2, c3], _ =>
    obtain ⟨xs, n, _, hx, _, hlen, hg⟩ := DataW.trod_struct ht h
    obtain ⟨o0, q0⟩ := hone_of hone 0 f0 rfl
    obtain ⟨o1, q1⟩ := hone_of hone 1 f1 rfl
    obtain ⟨o2, q2⟩ := hone_of hone 2 f2 rfl
    obtain ⟨o3, q3⟩ := hone_of hone 3 f3 rfl
    match xs, hlen with
    | [y0, y1, y2, y3], _ =>
      have hy0 : DataW.trod enc P w base spare held n f0.type [c0] = some y0 := by simpa [o0, q0] using hg 0 f0 rfl
      have hy1 : DataW.trod enc P w base spare held n f1.type [c1] = some y1 := by simpa [o1, q1] using hg 1 f1 rfl
      have hy2 : DataW.trod enc P w base spare held n f2.type [c2] = some y2 := by simpa [o2, q2] using hg 2 f2 rfl
      have hy3 : DataW.trod enc P w base spare held n f3.type [c3] = some y3 := by simpa [o3, q3] using hg 3 f3 rfl
      obtain ⟨A1, n1, d1, rfl⟩ := slice_any k0 hy0
      obtain ⟨A2, n2, d2, rfl⟩ := slice_any k1 hy1
      obtain ⟨z2, e2, _⟩ := DataW.trod_bool k2 hy2
      obtain ⟨z3, e3, _, w3⟩ := DataW.trod_int k3 hy3
      simp at e2 e3
      subst e2 e3
      exact ⟨⟨A1, n1, d1, A2, n2, d2, z2, z3⟩, wf_i64 w3, rfl⟩
/-- A reduction that came in. -/
theorem came_red {f0 f1 f2 f3 f4 f5 : Field} (ht : P.underlying t = some (.struct #[f0, f1, f2, f3, f4, f5])) (hone : oneCellFields P #[f0, f1, f2, f3, f4, f5] = true) (hC : P.cellsOf t = 6)
    (k0 : P.underlying f0.type = some (.int .i64)) (k1 : P.underlying f1.type = some (.int .i64)) (k2 : P.underlying f2.type = some (.int .i64)) (k3 : P.underlying f3.type = some (.int .u64)) (k4 : P.underlying f4.type = some (.int .i64)) (k5 : P.underlying f5.type = some (.int .i64))
    (hv : Value.okWide P W r b0 t v) (h : DataW.Trod enc P w base spare held t v d p) : ∃ r : RedT, r.ok ∧ v = .agg #[.int .i64 r.c, .int .i64 r.i, .int .i64 (hiI r.v), .int .u64 (loI r.v), .int .i64 r.l, .int .i64 r.m] := by
  obtain ⟨cs, rfl, hsz⟩ := okWide_struct ht hv
  obtain ⟨fuel, hf⟩ := h
  obtain ⟨r, hr, hc⟩ := red_cells ht hone hC k0 k1 k2 k3 k4 k5 (cs := cs.toList) (by simpa using hsz.trans hC) (by simpa [Value.cells] using hf)
  refine ⟨r, hr, ?_⟩
  rw [← Array.toArray_toList (xs := cs), hc]
  rfl
/-- A row that came in. -/
theorem came_item {f0 f1 f2 f3 : Field} {e0 e1 : TypeId} (ht : P.underlying t = some (.struct #[f0, f1, f2, f3])) (hone : oneCellFields P #[f0, f1, f2, f3] = true) (hC : P.cellsOf t = 4)
    (k0 : P.underlying f0.type = some (.slice e0)) (k1 : P.underlying f1.type = some (.slice e1)) (k2 : P.underlying f2.type = some .bool) (k3 : P.underlying f3.type = some (.int .i64))
    (hv : Value.okWide P W r b0 t v) (h : DataW.Trod enc P w base spare held t v d p) : ∃ x : ItemT, R64 x.n ∧ v = .agg #[.slice x.A1 x.n1 x.c1, .slice x.A2 x.n2 x.c2, .bool x.b, .int .i64 x.n] := by
  obtain ⟨cs, rfl, hsz⟩ := okWide_struct ht hv
  obtain ⟨fuel, hf⟩ := h
  obtain ⟨r, hr, hc⟩ := item_cells ht hone hC k0 k1 k2 k3 (cs := cs.toList) (by simpa using hsz.trans hC) (by simpa [Value.cells] using hf)
  refine ⟨r, hr, ?_⟩
  rw [← Array.toArray_toList (xs := cs), hc]
  rfl
/-- A slice of reductions that came in. -/
theorem came_reds {f0 f1 f2 f3 f4 f5 : Field} {A : Option Addr} {n c : Nat} (ht : P.underlying t = some (.slice e)) (he : P.underlying e = some (.struct #[f0, f1, f2, f3, f4, f5])) (hone : oneCellFields P #[f0, f1, f2, f3, f4, f5] = true) (hC : P.cellsOf e = 6)
    (k0 : P.underlying f0.type = some (.int .i64)) (k1 : P.underlying f1.type = some (.int .i64)) (k2 : P.underlying f2.type = some (.int .i64)) (k3 : P.underlying f3.type = some (.int .u64)) (k4 : P.underlying f4.type = some (.int .i64)) (k5 : P.underlying f5.type = some (.int .i64))
    (h : DataW.Trod enc P w base spare held t (.slice A n c) d p) : ∃ l : List RedT, Reds w w.heap.size A n l ∧ (∀ r ∈ l, r.ok) ∧ (A = none → c = 0) ∧ n ≤ c ∧ c ≤ maxLen := by
  obtain ⟨fuel, hf⟩ := h
  rcases open_slice ht hf with ⟨hcs, _⟩ | ⟨a, len, cap, m, nn, D, Pl, hcs, _, hl, hm, hmm, _, hi⟩
  · simp [Value.cells] at hcs
    obtain ⟨rfl, rfl, rfl⟩ := hcs
    exact ⟨[], Shows.zero _, by simp, fun _ => rfl, Nat.le_refl _, by unfold maxLen; omega⟩
  · simp [Value.cells] at hcs
    obtain ⟨rfl, rfl, rfl⟩ := hcs
    have hnm : n ≤ m := by rw [hmm]; split <;> omega
    have hF : ∀ i, ∃ r : RedT, i < n → r.ok ∧ ∀ j u, r.cells[j]? = some u → w.cell? (a.add (i * 6 + j)) = some u := by
      intro i
      by_cases hin : i < n
      · obtain ⟨cs, hc, htr⟩ := hi i (by omega)
        obtain ⟨_, hlen, hat⟩ := World.cells?_some hc
        rw [hC] at hlen hat
        obtain ⟨r, hr, rfl⟩ := red_cells he hone hC k0 k1 k2 k3 k4 k5 hlen htr
        refine ⟨r, fun _ => ⟨hr, fun j u hu => ?_⟩⟩
        have hj : j < 6 := by have := (List.getElem?_eq_some_iff.1 hu).1; rw [hlen] at this; exact this
        have := hat j hj
        rw [hu] at this
        rw [← this, ← Go.Deep.add_add]
      · exact ⟨RedT.zero, fun h => absurd h hin⟩
    refine ⟨(List.range n).map fun i => Classical.choose (hF i), shows_rows RedT.cells 6 (by omega) (fun _ => rfl) _ fun i hi j u hu => (Classical.choose_spec (hF i) hi).2 j u hu, ?_, nofun, hl, hm⟩
    intro r hr
    obtain ⟨i, hi, rfl⟩ := List.mem_map.1 hr
    exact (Classical.choose_spec (hF i) (List.mem_range.1 hi)).1
/-- A slice of rows that came in. -/
theorem came_items {f0 f1 f2 f3 : Field} {e0 e1 : TypeId} {A : Option Addr} {n c : Nat} (ht : P.underlying t = some (.slice e)) (he : P.underlying e = some (.struct #[f0, f1, f2, f3])) (hone : oneCellFields P #[f0, f1, f2, f3] = true) (hC : P.cellsOf e = 4)
    (k0 : P.underlying f0.type = some (.slice e0)) (k1 : P.underlying f1.type = some (.slice e1)) (k2 : P.underlying f2.type = some .bool) (k3 : P.underlying f3.type = some (.int .i64))
    (h : DataW.Trod enc P w base spare held t (.slice A n c) d p) : ∃ l : List ItemT, Items w w.heap.size A n l ∧ (∀ r ∈ l, R64 r.n) ∧ (A = none → c = 0) ∧ n ≤ c ∧ c ≤ maxLen := by
  obtain ⟨fuel, hf⟩ := h
  rcases open_slice ht hf with ⟨hcs, _⟩ | ⟨a, len, cap, m, nn, D, Pl, hcs, _, hl, hm, hmm, _, hi⟩
  · simp [Value.cells] at hcs
    obtain ⟨rfl, rfl, rfl⟩ := hcs
    exact ⟨[], Shows.zero _, by simp, fun _ => rfl, Nat.le_refl _, by unfold maxLen; omega⟩
  · simp [Value.cells] at hcs
    obtain ⟨rfl, rfl, rfl⟩ := hcs
    have hnm : n ≤ m := by rw [hmm]; split <;> omega
    have hF : ∀ i, ∃ r : ItemT, i < n → R64 r.n ∧ ∀ j u, r.cells[j]? = some u → w.cell? (a.add (i * 4 + j)) = some u := by
      intro i
      by_cases hin : i < n
      · obtain ⟨cs, hc, htr⟩ := hi i (by omega)
        obtain ⟨_, hlen, hat⟩ := World.cells?_some hc
        rw [hC] at hlen hat
        obtain ⟨r, hr, rfl⟩ := item_cells he hone hC k0 k1 k2 k3 hlen htr
        refine ⟨r, fun _ => ⟨hr, fun j u hu => ?_⟩⟩
        have hj : j < 4 := by have := (List.getElem?_eq_some_iff.1 hu).1; rw [hlen] at this; exact this
        have := hat j hj
        rw [hu] at this
        rw [← this, ← Go.Deep.add_add]
      · exact ⟨⟨none, 0, 0, none, 0, 0, false, 0⟩, fun h => absurd h hin⟩
    refine ⟨(List.range n).map fun i => Classical.choose (hF i), shows_rows ItemT.cells 4 (by omega) (fun _ => rfl) _ fun i hi j u hu => (Classical.choose_spec (hF i) hi).2 j u hu, ?_, nofun, hl, hm⟩
    intro r hr
    obtain ⟨i, hi, rfl⟩ := List.mem_map.1 hr
    exact (Classical.choose_spec (hF i) (List.mem_range.1 hi)).1
end
end Go.Proofs.Ytnfohlabmidliaa
/-
  Layer 13: the law MonoidChecks, walked.
-/
namespace Go.Proofs.Ytnfohlabmidliaa
open Go.RowKit
attribute [local go_sem ↓] Go.wp_at_zero Go.wp_at_succ

theorem check_agg (c i v le mo : Int) (w : World) (hv : R128 v) (hle : R64 le) (hmo : R64 mo) :
    Calls Try.prog 104 #[.agg #[.int .i64 c, .int .i64 i, .int .i64 (hiI v), .int .u64 (loI v), .int .i64 le, .int .i64 mo]] w fun e w' => e = .returned (.int .i64 (redE c i v le mo)) ∧ Below w.heap.size w w' := mcheck_any c i v le mo w hv hle hmo
theorem check_yes (c i v le mo : Int) (w : World) (hv : R128 v) (hle : R64 le) (hmo : R64 mo) (h : validB c i v le mo = true) :
    Calls Try.prog 104 #[.agg #[.int .i64 c, .int .i64 i, .int .i64 (hiI v), .int .u64 (loI v), .int .i64 le, .int .i64 mo]] w fun e w' => e = .returned (.int .i64 0) ∧ Below w.heap.size w w' := by
  have := check_agg c i v le mo w hv hle hmo
  unfold redE at this
  rw [if_pos h] at this
  exact this
theorem check_no (c i v le mo : Int) (w : World) (hv : R128 v) (hle : R64 le) (hmo : R64 mo) (h : validB c i v le mo = false) :
    Calls Try.prog 104 #[.agg #[.int .i64 c, .int .i64 i, .int .i64 (hiI v), .int .u64 (loI v), .int .i64 le, .int .i64 mo]] w fun e w' => e = .returned (.int .i64 230) ∧ Below w.heap.size w w' := by
  have := check_agg c i v le mo w hv hle hmo
  unfold redE at this
  rw [if_neg (by rw [h]; simp)] at this
  exact this
theorem right_yes (c i v le mo : Int) (w : World) (hv : R128 v) (hle : R64 le) (hmo : R64 mo) (h : validB c i v le mo = true) :
    Calls Try.prog 52 #[.agg #[.int .i64 c, .int .i64 i, .int .i64 (hiI v), .int .u64 (loI v), .int .i64 le, .int .i64 mo]] w fun e w' => e = .returned (.bool true) ∧ Below w.heap.size w w' := by
  rw [← h]; exact mright_any c i v le mo w hv hle hmo
theorem right_no (c i v le mo : Int) (w : World) (hv : R128 v) (hle : R64 le) (hmo : R64 mo) (h : validB c i v le mo = false) :
    Calls Try.prog 52 #[.agg #[.int .i64 c, .int .i64 i, .int .i64 (hiI v), .int .u64 (loI v), .int .i64 le, .int .i64 mo]] w fun e w' => e = .returned (.bool false) ∧ Below w.heap.size w w' := by
  rw [← h]; exact mright_any c i v le mo w hv hle hmo
/-- One's number of numbers and sum. -/
def o1 (b : Bool) : Int := if b then 1 else 0
def oN (b : Bool) (n : Int) : Int := if b then n else 0
theorem one_row (b : Bool) (n : Int) : oneV b n = .agg #[.int .i64 1, .int .i64 (o1 b), .int .i64 (hiI (oN b n)), .int .u64 (loI (oN b n)), .int .i64 (oN b n), .int .i64 (oN b n)] := by
  cases b <;> rfl
theorem one_valid (b : Bool) (n : Int) : validB 1 (o1 b) (oN b n) (oN b n) (oN b n) = true := by
  cases b
  · rfl
  · simp [validB, o1, oN]
theorem one_agg (x : ItemT) (w : World) (hn : R64 x.n) :
    Calls Try.prog 99 #[.agg #[.slice x.A1 x.n1 x.c1, .slice x.A2 x.n2 x.c2, .bool x.b, .int .i64 x.n]] w fun e w' => e = .returned (.agg #[.int .i64 1, .int .i64 (o1 x.b), .int .i64 (hiI (oN x.b x.n)), .int .u64 (loI (oN x.b x.n)), .int .i64 (oN x.b x.n), .int .i64 (oN x.b x.n)]) ∧ Below w.heap.size w w' := by
  rw [← one_row]; exact one_any x.A1 x.n1 x.c1 x.A2 x.n2 x.c2 x.b x.n w hn
theorem refOne_agg (x : ItemT) (w : World) (hn : R64 x.n) :
    Calls Try.prog 55 #[.agg #[.slice x.A1 x.n1 x.c1, .slice x.A2 x.n2 x.c2, .bool x.b, .int .i64 x.n]] w fun e w' => e = .returned (.agg #[.int .i64 1, .int .i64 (o1 x.b), .int .i64 (hiI (oN x.b x.n)), .int .u64 (loI (oN x.b x.n)), .int .i64 (oN x.b x.n), .int .i64 (oN x.b x.n)]) ∧ Below w.heap.size w w' := by
  rw [← one_row]; exact refOne_any x.A1 x.n1 x.c1 x.A2 x.n2 x.c2 x.b x.n w hn
theorem oN_r64 (b : Bool) (n : Int) (h : R64 n) : R64 (oN b n) ∧ R128 (oN b n) := by
  unfold R64 at h
  unfold oN R64 R128
  cases b <;> simp <;> omega

end Go.Proofs.Ytnfohlabmidliaa
/-
  The reduction of rows, one by one. No program in sight.
-/
namespace Go.Proofs.Ytnfohlabmidliaa
open Go.RowKit

def ItemT.one (x : ItemT) : RedT := ⟨1, o1 x.b, oN x.b x.n, oN x.b x.n, oN x.b x.n⟩
def allR (l : List ItemT) : RedT := l.foldl (fun a x => a.join x.one) RedT.zero
theorem allR_nil : allR [] = RedT.zero := rfl
theorem allR_snoc (l : List ItemT) (x : ItemT) : allR (l ++ [x]) = (allR l).join x.one := by unfold allR; rw [List.foldl_append]; rfl
theorem one_is (x : ItemT) : x.one.valid = true := one_valid x.b x.n
theorem one_ok (x : ItemT) (h : R64 x.n) : x.one.ok := by
  obtain ⟨h1, h2⟩ := oN_r64 x.b x.n h
  refine ⟨?_, ?_, h2, h1, h1⟩
  · show R64 1; unfold R64; omega
  · show R64 (o1 x.b); unfold R64 o1; cases x.b <;> simp

theorem valid_iff (c i v le mo : Int) : validB c i v le mo = true ↔ (0 ≤ c ∧ c ≤ 1073741824 ∧ 0 ≤ i ∧ i ≤ c) ∧ ((i = 0 ∧ v = 0 ∧ le = 0 ∧ mo = 0) ∨ (i = 1 ∧ le = mo ∧ v = le) ∨ (2 ≤ i ∧ le ≤ mo ∧ le + mo + le * (i - 2) ≤ v ∧ v ≤ le + mo + mo * (i - 2))) := by
  rcases valid_cases c i v le mo with ⟨h, hr⟩ | ⟨h, hr⟩ | ⟨h, hr⟩ | ⟨h, hr⟩ | ⟨h, hr⟩ | ⟨h, hr⟩ | ⟨h, hr⟩
  · rw [hr]; simp only [Bool.false_eq_true, false_iff]; intro hh; omega
  · rw [hr]; simp only [Bool.false_eq_true, false_iff]; intro hh; omega
  · rw [hr]; simp only [Bool.false_eq_true, false_iff]; intro hh; omega
  · rw [hr]; simp only [Bool.false_eq_true, false_iff]; intro hh; omega
  · rw [hr, decide_eq_true_iff]
    constructor
    · intro hh; exact ⟨by omega, .inl ⟨h.2, hh⟩⟩
    · rintro ⟨_, ⟨_, hh⟩ | ⟨hi, _⟩ | ⟨hi, _⟩⟩
      · exact hh
      · omega
      · omega
  · rw [hr, decide_eq_true_iff]
    constructor
    · intro hh; exact ⟨by omega, .inr (.inl ⟨h.2.2, hh⟩)⟩
    · rintro ⟨_, ⟨hi, _⟩ | ⟨_, hh⟩ | ⟨hi, _⟩⟩
      · omega
      · exact hh
      · omega
  · rw [hr]
    simp only [Bool.and_eq_true, decide_eq_true_iff]
    constructor
    · intro hh; exact ⟨by omega, .inr (.inr ⟨h.2.1, hh⟩)⟩
    · rintro ⟨_, ⟨hi, _⟩ | ⟨hi, _⟩ | ⟨_, hh⟩⟩
      · omega
      · omega
      · exact hh
/-- One number more. -/
theorem join_one_valid (a : RedT) (x : ItemT) (h : a.valid = true) (hc : a.c + 1 ≤ 1073741824) : (a.join x.one).valid = true := by
  obtain ⟨c, i, v, le, mo⟩ := a
  unfold RedT.valid at h ⊢
  rw [valid_iff] at h ⊢
  simp only at h hc
  obtain ⟨⟨h1, h2, h3, h4⟩, h⟩ := h
  cases hb : x.b
  · simp only [RedT.join, ItemT.one, hb, o1, oN, jL, jM]
    refine ⟨by simp; omega, ?_⟩
    rcases h with ⟨h, hv, hl, hm⟩ | ⟨h, hl, hv⟩ | ⟨h, hl, hv, hw⟩
    · left; subst h hv hl hm; simp
    · right; left; subst h; simp [hl, hv]
    · right; right
      have hi0 : ¬ i = 0 := by omega
      simp [hi0]
      exact ⟨by omega, hl, hv, hw⟩
  · simp only [RedT.join, ItemT.one, hb, o1, oN, jL, jM]
    refine ⟨by simp; omega, ?_⟩
    rcases h with ⟨h, hv, hl, hm⟩ | ⟨h, hl, hv⟩ | ⟨h, hl, hv, hw⟩
    · right; left; subst h hv hl hm; simp
    · right; right; subst h; simp; omega
    · right; right
      have hi0 : ¬ i = 0 := by omega
      simp [hi0]
      have e : i + 1 - 2 = (i - 2) + 1 := by omega
      have hk : 0 ≤ i - 2 := by omega
      rw [e]
      generalize i - 2 = k at *
      rw [Int.mul_add, Int.mul_add, Int.mul_one, Int.mul_one]
      have m1 : min le x.n * k ≤ le * k := Int.mul_le_mul_of_nonneg_right (by omega) hk
      have m2 : mo * k ≤ max mo x.n * k := Int.mul_le_mul_of_nonneg_right (by omega) hk
      generalize le * k = p at *
      generalize mo * k = q at *
      generalize min le x.n * k = p' at *
      generalize max mo x.n * k = q' at *
      omega
theorem jL_r64 (i1 i2 l1 l2 : Int) (h1 : R64 l1) (h2 : R64 l2) : R64 (jL i1 i2 l1 l2) := by
  unfold R64 jL at *
  split
  · exact h2
  · split
    · exact h1
    · omega
theorem jM_r64 (i1 i2 l1 l2 : Int) (h1 : R64 l1) (h2 : R64 l2) : R64 (jM i1 i2 l1 l2) := by
  unfold R64 jM at *
  split
  · exact h2
  · split
    · exact h1
    · omega
/-- What is known of the reduction of rows. -/
structure AllOk (l : List ItemT) (a : RedT) : Prop where
  cnt : a.c = l.length
  valid : a.valid = true
  low : -9223372036854775808 * (l.length : Int) ≤ a.v
  high : a.v ≤ 9223372036854775808 * (l.length : Int)
  least : R64 a.l
  most : R64 a.m
theorem allOk_snoc (l : List ItemT) (x : ItemT) (hx : R64 x.n) (hl : l.length < 1000) (h : AllOk l (allR l)) : AllOk (l ++ [x]) (allR (l ++ [x])) := by
  rw [allR_snoc]
  have hv := join_one_valid (allR l) x h.valid (by rw [h.cnt]; omega)
  obtain ⟨h1, h2, h3, h4, h5, h6⟩ := h
  generalize allR l = a at *
  have hn := (oN_r64 x.b x.n hx).1
  have hn' := hn
  unfold R64 at hn'
  refine ⟨?_, hv, ?_, ?_, ?_, ?_⟩
  · simp [RedT.join, ItemT.one, h1]
  · simp [RedT.join, ItemT.one]; omega
  · simp [RedT.join, ItemT.one]; omega
  · exact jL_r64 _ _ _ _ h5 hn
  · exact jM_r64 _ _ _ _ h6 hn
theorem allOk (l : List ItemT) (hx : ∀ x ∈ l, R64 x.n) (hl : l.length ≤ 1000) : AllOk l (allR l) := by
  have key : ∀ k, k ≤ l.length → AllOk (l.take k) (allR (l.take k)) := by
    intro k
    induction k with
    | zero => intro _; exact ⟨rfl, by rfl, by simp [allR, RedT.zero], by simp [allR, RedT.zero], by unfold allR RedT.zero R64; simp, by unfold allR RedT.zero R64; simp⟩
    | succ k ih =>
      intro hk
      rw [List.take_succ_eq_append_getElem (by omega)]
      exact allOk_snoc _ _ (hx _ (List.getElem_mem _)) (by simp; omega) (ih (by omega))
  have := key l.length (Nat.le_refl _)
  rwa [List.take_length] at this
theorem AllOk.ok {l : List ItemT} {a : RedT} (h : AllOk l a) (hl : l.length ≤ 1000) : a.ok := by
  obtain ⟨⟨b1, b2⟩, b3, b4⟩ := valid_bounds a h.valid
  have := h.low
  have := h.high
  refine ⟨?_, ?_, ?_, h.least, h.most⟩
  · unfold R64; omega
  · unfold R64; omega
  · unfold R128; omega
/-- What Join makes of two. -/
theorem zero_join (a : RedT) : RedT.zero.join a = a := by
  obtain ⟨c, i, v, le, mo⟩ := a
  simp [RedT.join, RedT.zero, jL, jM]
theorem jall_two (a r : RedT) (ha : a.valid = true) (hr : r.valid = true) (hc : a.c + r.c ≤ 1073741824) : jall [a, r] = (a.join r, 0) := by
  have hb := (valid_bounds a ha).1
  unfold jall
  rw [if_pos (by simp [ha, hr])]
  show (if 1073741824 - 0 < a.c then _ else (if 1073741824 - (RedT.zero.join a).c < r.c then _ else (((RedT.zero.join a).join r), 0))) = _
  rw [zero_join, if_neg (by omega), if_neg (by omega)]
theorem reds_two (w : World) (a r : RedT) (t : TypeId) : Reds (w.alloc (.cells #[.int .i64 a.c, .int .i64 a.i, .int .i64 (hiI a.v), .int .u64 (loI a.v), .int .i64 a.l, .int .i64 a.m, .int .i64 r.c, .int .i64 r.i, .int .i64 (hiI r.v), .int .u64 (loI r.v), .int .i64 r.l, .int .i64 r.m] t)) (w.heap.size + 1) (some ⟨w.heap.size, 0, none⟩) 2 [a, r] := by
  have hcells : ∀ (j : Nat) (u : Value), ([a, r].flatMap RedT.cells)[j]? = some u → (#[.int .i64 a.c, .int .i64 a.i, .int .i64 (hiI a.v), .int .u64 (loI a.v), .int .i64 a.l, .int .i64 a.m, .int .i64 r.c, .int .i64 r.i, .int .i64 (hiI r.v), .int .u64 (loI r.v), .int .i64 r.l, .int .i64 r.m] : Array Value)[j]? = some u := by
    intro j u hu
    simpa [RedT.cells] using hu
  refine ⟨rfl, fun _ => ⟨w.heap.size, 0, rfl, by omega, fun j u hu => ?_⟩⟩
  rw [Nat.zero_add]
  exact (World.cell?_alloc_new w _ t j).trans (hcells j u hu)
end Go.Proofs.Ytnfohlabmidliaa
/-
  Layer 14, plain: the order of bytes; items, kids, nodes and how they lie; which may be. No program in sight.
-/
namespace Go.Proofs.Ytnfohlabmidliaa
open Go.RowKit
set_option linter.unusedVariables false

/-- Bytes compared: -1, 0 or 1. -/
def cmpL : List UInt8 → List UInt8 → Int
  | [], [] => 0
  | [], _ :: _ => -1
  | _ :: _, [] => 1
  | x :: l, y :: m => if x.toNat < y.toNat then -1 else if y.toNat < x.toNat then 1 else cmpL l m
theorem cmpL_self : ∀ l : List UInt8, cmpL l l = 0
  | [] => rfl
  | x :: l => by unfold cmpL; rw [if_neg (by omega), if_neg (by omega), cmpL_self l]
theorem cmpL_turn : ∀ l m : List UInt8, cmpL m l = - cmpL l m
  | [], [] => rfl
  | [], _ :: _ => rfl
  | _ :: _, [] => rfl
  | x :: l, y :: m => by
    unfold cmpL
    have ih := cmpL_turn l m
    by_cases h1 : y.toNat < x.toNat
    · simp [h1, show ¬ x.toNat < y.toNat by omega]
    · by_cases h2 : x.toNat < y.toNat
      · simp [h1, h2]
      · simp [h1, h2, ih]
theorem cmpL_zero : ∀ l m : List UInt8, cmpL l m = 0 → l = m
  | [], [], _ => rfl
  | [], _ :: _, h => by simp [cmpL] at h
  | _ :: _, [], h => by simp [cmpL] at h
  | x :: l, y :: m, h => by
    unfold cmpL at h
    split at h
    · cases h
    · split at h
      · cases h
      · rw [cmpL_zero l m h, UInt8.toNat_inj.1 (show x.toNat = y.toNat by omega)]
theorem cmpL_ends (l m : List UInt8) : cmpL l m = -1 ∨ cmpL l m = 0 ∨ cmpL l m = 1 := by
  induction l generalizing m with
  | nil => cases m <;> simp [cmpL]
  | cons x l ih =>
    cases m with
    | nil => simp [cmpL]
    | cons y m => unfold cmpL; split; · exact .inl rfl
                  split; · exact .inr (.inr rfl)
                  exact ih m
theorem cmpL_trans : ∀ l m k : List UInt8, cmpL l m < 0 → cmpL m k < 0 → cmpL l k < 0
  | l, m, [], h1, h2 => by cases m <;> simp [cmpL] at h2
  | l, [], z :: k, h1, h2 => by cases l <;> simp [cmpL] at h1
  | [], y :: m, z :: k, h1, h2 => by simp [cmpL]
  | x :: l, y :: m, z :: k, h1, h2 => by
    unfold cmpL at h1 h2 ⊢
    split at h1
    · split at h2
      · rw [if_pos (by omega)]; omega
      · split at h2
        · omega
        · rw [if_pos (by omega)]; omega
    · split at h1
      · omega
      · split at h2
        · rw [if_pos (by omega)]; omega
        · split at h2
          · omega
          · rw [if_neg (by omega), if_neg (by omega)]
            exact cmpL_trans l m k h1 h2

/-- An item, with the heads of its rows. -/
structure ItT where
  k : PcT
  v : PcT
  b : Bool
  n : Int
def ItT.cells (x : ItT) : List Value := [.slice x.k.A x.k.n x.k.c, .slice x.v.A x.v.n x.v.c, .bool x.b, .int .i64 x.n]
structure ItT.Ok (w : World) (B : Nat) (x : ItT) : Prop where
  key : x.k.Ok w B
  val : x.v.Ok w B
  num : R64 x.n
theorem ItT.Ok.later {w w' : World} {B : Nat} {x : ItT} (h : x.Ok w B) (hb : Below B w w') : x.Ok w' B := ⟨h.key.later hb, h.val.later hb, h.num⟩
theorem ItT.Ok.more {w : World} {B B' : Nat} {x : ItT} (h : x.Ok w B) (hB : B ≤ B') : x.Ok w B' := ⟨h.key.more hB, h.val.more hB, h.num⟩
/-- A kid, with the head of its key. -/
structure KiT where
  k : PcT
  a : Int
  r : RedT
def KiT.cells (x : KiT) : List Value := [.slice x.k.A x.k.n x.k.c, .int .i64 x.a, .int .i64 x.r.c, .int .i64 x.r.i, .int .i64 (hiI x.r.v), .int .u64 (loI x.r.v), .int .i64 x.r.l, .int .i64 x.r.m]
structure KiT.Ok (w : World) (B : Nat) (x : KiT) : Prop where
  key : x.k.Ok w B
  pos : R64 x.a
  red : x.r.ok
theorem KiT.Ok.later {w w' : World} {B : Nat} {x : KiT} (h : x.Ok w B) (hb : Below B w w') : x.Ok w' B := ⟨h.key.later hb, h.pos, h.red⟩
theorem KiT.Ok.more {w : World} {B B' : Nat} {x : KiT} (h : x.Ok w B) (hB : B ≤ B') : x.Ok w B' := ⟨h.key.more hB, h.pos, h.red⟩
/-- A node, with the heads of its rows. -/
structure NoT where
  leaf : Bool
  iA : Option Addr
  iN : Nat
  iC : Nat
  I : List ItT
  kA : Option Addr
  kN : Nat
  kC : Nat
  K : List KiT
def NoT.agg (X : NoT) : Value := .agg #[.bool X.leaf, .slice X.iA X.iN X.iC, .slice X.kA X.kN X.kC]
structure LieN (w : World) (B : Nat) (X : NoT) : Prop where
  irow : Shows w B 4 X.iA X.iN (X.I.flatMap ItT.cells)
  items : ∀ x ∈ X.I, x.Ok w B
  inil : X.iA = none → X.iC = 0
  ifit : X.iN ≤ X.iC
  imost : X.iC ≤ maxLen
  krow : Shows w B 8 X.kA X.kN (X.K.flatMap KiT.cells)
  kids : ∀ x ∈ X.K, x.Ok w B
  knil : X.kA = none → X.kC = 0
  kfit : X.kN ≤ X.kC
  kmost : X.kC ≤ maxLen
theorem LieN.later {w w' : World} {B : Nat} {X : NoT} (h : LieN w B X) (hb : Below B w w') : LieN w' B X :=
  ⟨h.irow.below hb, fun x hx => (h.items x hx).later hb, h.inil, h.ifit, h.imost, h.krow.below hb, fun x hx => (h.kids x hx).later hb, h.knil, h.kfit, h.kmost⟩
theorem LieN.more {w : World} {B B' : Nat} {X : NoT} (h : LieN w B X) (hB : B ≤ B') : LieN w B' X :=
  ⟨h.irow.more hB, fun x hx => (h.items x hx).more hB, h.inil, h.ifit, h.imost, h.krow.more hB, fun x hx => (h.kids x hx).more hB, h.knil, h.kfit, h.kmost⟩

theorem flatN_len {α β : Type} (f : α → List β) (d : Nat) (hf : ∀ x, (f x).length = d) : ∀ L : List α, (L.flatMap f).length = L.length * d
  | [] => by simp
  | y :: L => by rw [List.flatMap_cons, List.length_append, hf, flatN_len f d hf L, List.length_cons, Nat.succ_mul]; omega
theorem flatN_at {α β : Type} (f : α → List β) (d : Nat) (hf : ∀ x, (f x).length = d) : ∀ (L : List α) (k : Nat) (x : α), L[k]? = some x → ∀ i, i < d → (L.flatMap f)[k * d + i]? = (f x)[i]?
  | [], k, x, h, i, hi => by simp at h
  | y :: L, 0, x, h, i, hi => by
    have e : y = x := by simpa using h
    rw [List.flatMap_cons, Nat.zero_mul, Nat.zero_add, List.getElem?_append_left (by rw [hf]; exact hi), e]
  | y :: L, k + 1, x, h, i, hi => by
    rw [List.flatMap_cons, List.getElem?_append_right (by rw [hf, Nat.succ_mul]; omega), hf, show (k + 1) * d + i - d = k * d + i by rw [Nat.succ_mul]; omega]
    exact flatN_at f d hf L k x (by simpa using h) i hi
theorem flatN_take {α β : Type} (f : α → List β) {L : List α} {k : Nat} {x : α} (h : L[k]? = some x) : (L.take (k + 1)).flatMap f = (L.take k).flatMap f ++ f x := by
  rw [List.take_add_one, h, List.flatMap_append]
  simp
theorem takeN {α : Type} {L : List α} {k : Nat} {x : α} (h : L[k]? = some x) : L.take (k + 1) = L.take k ++ [x] := by
  rw [List.take_add_one, h]
  rfl
theorem dropN {α : Type} {L : List α} {k : Nat} {x : α} (h : L[k]? = some x) : L.drop k = x :: L.drop (k + 1) := by
  obtain ⟨hk, e⟩ := List.getElem?_eq_some_iff.1 h
  rw [List.drop_eq_getElem_cons hk, e]
theorem LieN.ilen {w : World} {B : Nat} {X : NoT} (h : LieN w B X) : X.I.length = X.iN := by
  have := h.irow.1
  rw [flatN_len ItT.cells 4 (fun _ => rfl)] at this
  omega
theorem LieN.klen {w : World} {B : Nat} {X : NoT} (h : LieN w B X) : X.K.length = X.kN := by
  have := h.krow.1
  rw [flatN_len KiT.cells 8 (fun _ => rfl)] at this
  omega
/-- An item's cells. -/
theorem it_at {w : World} {B n : Nat} {A : Option Addr} {L : List ItT} (h : Shows w B 4 A n (L.flatMap ItT.cells)) {i : Nat} (hi : i < n) : ∃ b off x, A = some ⟨b, off, none⟩ ∧ b < B ∧ L[i]? = some x ∧
    w.cell? ⟨b, off + i * 4, none⟩ = some (.slice x.k.A x.k.n x.k.c) ∧ w.cell? ⟨b, off + i * 4 + 1, none⟩ = some (.slice x.v.A x.v.n x.v.c) ∧ w.cell? ⟨b, off + i * 4 + 2, none⟩ = some (.bool x.b) ∧ w.cell? ⟨b, off + i * 4 + 3, none⟩ = some (.int .i64 x.n) := by
  have hl : L.length = n := by have := h.1; rw [flatN_len ItT.cells 4 (fun _ => rfl)] at this; omega
  obtain ⟨b, off, rfl, hb, hc⟩ := h.2 (by omega)
  have hx : L[i]? = some (L[i]'(by omega)) := List.getElem?_eq_getElem (by omega)
  refine ⟨b, off, _, rfl, hb, hx, ?_, ?_, ?_, ?_⟩
  · exact hc (i * 4 + 0) _ ((flatN_at ItT.cells 4 (fun _ => rfl) L i _ hx 0 (by omega)).trans rfl)
  · exact hc (i * 4 + 1) _ ((flatN_at ItT.cells 4 (fun _ => rfl) L i _ hx 1 (by omega)).trans rfl)
  · exact hc (i * 4 + 2) _ ((flatN_at ItT.cells 4 (fun _ => rfl) L i _ hx 2 (by omega)).trans rfl)
  · exact hc (i * 4 + 3) _ ((flatN_at ItT.cells 4 (fun _ => rfl) L i _ hx 3 (by omega)).trans rfl)
/-- A kid's cells. -/
theorem ki_at {w : World} {B n : Nat} {A : Option Addr} {L : List KiT} (h : Shows w B 8 A n (L.flatMap KiT.cells)) {i : Nat} (hi : i < n) : ∃ b off x, A = some ⟨b, off, none⟩ ∧ b < B ∧ L[i]? = some x ∧
    w.cell? ⟨b, off + i * 8, none⟩ = some (.slice x.k.A x.k.n x.k.c) ∧ w.cell? ⟨b, off + i * 8 + 1, none⟩ = some (.int .i64 x.a) ∧ w.cell? ⟨b, off + i * 8 + 2, none⟩ = some (.int .i64 x.r.c) ∧ w.cell? ⟨b, off + i * 8 + 3, none⟩ = some (.int .i64 x.r.i) ∧
    w.cell? ⟨b, off + i * 8 + 4, none⟩ = some (.int .i64 (hiI x.r.v)) ∧ w.cell? ⟨b, off + i * 8 + 5, none⟩ = some (.int .u64 (loI x.r.v)) ∧ w.cell? ⟨b, off + i * 8 + 6, none⟩ = some (.int .i64 x.r.l) ∧ w.cell? ⟨b, off + i * 8 + 7, none⟩ = some (.int .i64 x.r.m) := by
  have hl : L.length = n := by have := h.1; rw [flatN_len KiT.cells 8 (fun _ => rfl)] at this; omega
  obtain ⟨b, off, rfl, hb, hc⟩ := h.2 (by omega)
  have hx : L[i]? = some (L[i]'(by omega)) := List.getElem?_eq_getElem (by omega)
  refine ⟨b, off, _, rfl, hb, hx, ?_, ?_, ?_, ?_, ?_, ?_, ?_, ?_⟩
  · exact hc (i * 8 + 0) _ ((flatN_at KiT.cells 8 (fun _ => rfl) L i _ hx 0 (by omega)).trans rfl)
  · exact hc (i * 8 + 1) _ ((flatN_at KiT.cells 8 (fun _ => rfl) L i _ hx 1 (by omega)).trans rfl)
  · exact hc (i * 8 + 2) _ ((flatN_at KiT.cells 8 (fun _ => rfl) L i _ hx 2 (by omega)).trans rfl)
  · exact hc (i * 8 + 3) _ ((flatN_at KiT.cells 8 (fun _ => rfl) L i _ hx 3 (by omega)).trans rfl)
  · exact hc (i * 8 + 4) _ ((flatN_at KiT.cells 8 (fun _ => rfl) L i _ hx 4 (by omega)).trans rfl)
  · exact hc (i * 8 + 5) _ ((flatN_at KiT.cells 8 (fun _ => rfl) L i _ hx 5 (by omega)).trans rfl)
  · exact hc (i * 8 + 6) _ ((flatN_at KiT.cells 8 (fun _ => rfl) L i _ hx 6 (by omega)).trans rfl)
  · exact hc (i * 8 + 7) _ ((flatN_at KiT.cells 8 (fun _ => rfl) L i _ hx 7 (by omega)).trans rfl)

/-- May a key be? -/
def keyB (l : List UInt8) : Bool := decide (1 ≤ l.length ∧ l.length ≤ 120)
def ItT.okB (x : ItT) : Bool := keyB x.k.l && decide (x.v.l.length ≤ 100) && (x.b || decide (x.n = 0))
def ItT.red (x : ItT) : RedT := ⟨1, o1 x.b, oN x.b x.n, oN x.b x.n, oN x.b x.n⟩
def KiT.okB (x : KiT) : Bool := keyB x.k.l && decide (1 ≤ x.a) && decide (x.a < 524288) && x.r.valid && decide (1 ≤ x.r.c)
/-- An entry: what may be of it, its key, its reduction. -/
inductive EnT where
  | it (x : ItT)
  | ki (x : KiT)
def EnT.key : EnT → PcT
  | .it x => x.k
  | .ki x => x.k
def EnT.okB : EnT → Bool
  | .it x => x.okB
  | .ki x => x.okB
def EnT.red : EnT → RedT
  | .it x => x.red
  | .ki x => x.r
def EnT.Ok (w : World) (B : Nat) : EnT → Prop
  | .it x => x.Ok w B
  | .ki x => x.Ok w B
theorem EnT.Ok.later {w w' : World} {B : Nat} {x : EnT} (h : x.Ok w B) (hb : Below B w w') : x.Ok w' B := by
  cases x
  · exact ItT.Ok.later h hb
  · exact KiT.Ok.later h hb
theorem EnT.Ok.key {w : World} {B : Nat} {x : EnT} (h : x.Ok w B) : x.key.Ok w B := by
  cases x
  · exact ItT.Ok.key h
  · exact KiT.Ok.key h
theorem one_ok_it (x : ItT) (h : R64 x.n) : x.red.ok := by
  obtain ⟨h1, h2⟩ := oN_r64 x.b x.n h
  refine ⟨?_, ?_, h2, h1, h1⟩
  · show R64 1; unfold R64; omega
  · show R64 (o1 x.b); unfold R64 o1; cases x.b <;> simp
theorem EnT.Ok.red {w : World} {B : Nat} {x : EnT} (h : x.Ok w B) : x.red.ok := by
  cases x with
  | it x => exact one_ok_it x (ItT.Ok.num h)
  | ki x => exact KiT.Ok.red h
def ltB (l m : List UInt8) : Bool := decide (cmpL l m < 0)
theorem ltB_yes {l m : List UInt8} (h : cmpL l m < 0) : ltB l m = true := decide_eq_true h
theorem ltB_no {l m : List UInt8} (h : ¬ cmpL l m < 0) : ltB l m = false := decide_eq_false h
/-- Which entries may be, one behind the other: each key above the one before. -/
def runOk : Option (List UInt8) → List EnT → Bool
  | _, [] => true
  | none, x :: l => x.okB && runOk (some x.key.l) l
  | some q, x :: l => x.okB && (ltB q x.key.l && runOk (some x.key.l) l)
/-- The entries of a node, where it has only those of its sort, and as many as may be. -/
def NoT.ents (X : NoT) : List EnT := if X.leaf then X.I.map .it else X.K.map .ki
def NoT.shape (X : NoT) : Bool := if X.leaf then decide (X.kN = 0 ∧ 1 ≤ X.iN ∧ X.iN ≤ 6) else decide (X.iN = 0 ∧ 2 ≤ X.kN ∧ X.kN ≤ 6)
def NoT.all (X : NoT) : RedT × Int := jall (X.ents.map EnT.red)
/-- May a node be? -/
def NoT.okB (X : NoT) : Bool := X.shape && (runOk none X.ents && decide (X.all.2 = 0))
end Go.Proofs.Ytnfohlabmidliaa
/-
  What the second form's bound gives: no part of a reading is greater than the whole. Rows of things that came in, each within the bound.
-/
namespace Go.Proofs.Ytnfohlabmidliaa
open Go.ChangeShapes Go.WideShapes Go.ChangeAt Go.RowKit Go.Deep
set_option linter.unusedVariables false

theorem blk_part {H : Type} {d : DataW H} : ∀ {l : List (DataW H)}, d ∈ l → Rows.uptoBulk d ≤ Rows.uptoBulkAll l
  | x :: r, h => by
    rw [Rows.uptoBulkAll]
    rcases List.mem_cons.1 h with rfl | h
    · omega
    · have := blk_part h; omega
theorem blk_agg {H : Type} {d : DataW H} {l : List (DataW H)} (h : d ∈ l) : Rows.uptoBulk d ≤ Rows.uptoBulk (.agg l) := by
  have := blk_part h
  rw [Rows.uptoBulk]
  omega
theorem blk_slice {H : Type} {d : DataW H} {l r : List (DataW H)} (h : d ∈ l) : Rows.uptoBulk d ≤ Rows.uptoBulk (.slice l r) := by
  have := blk_part h
  rw [Rows.uptoBulk]
  omega
theorem blk_str {H : Type} {s : ByteArray} {N : Nat} (h : Rows.uptoBulk (DataW.lit (H := H) (.string s.data.toList)) ≤ N) : s.size ≤ N := by
  rw [Rows.uptoBulk] at h
  have : s.data.toList.length = s.size := by rw [Array.length_toList]; rfl
  omega
theorem blk_all {H : Type} {l : List (DataW H)} (h : Rows.uptoSmall H l = true) {d : DataW H} (hd : d ∈ l) : Rows.uptoBulk d ≤ 1048576 := by
  have h1 := of_decide_eq_true h
  exact Nat.le_trans (blk_part hd) h1
section
variable {H : Type} {enc : TypeId × Value → H} {P : Program} {w W : World} {base : Nat} {spare : Nat → Bool} {held : Bool} {t e : TypeId} {N : Nat}
/-- A row of things that came in, one by one, each within the bound. -/
theorem open_rowsN {α : Type} (f : α → List Value) (z : α) (k : Nat) (hk : 0 < k) (hf : ∀ x, (f x).length = k) (Q : α → Prop) {fuel : Nat} {cs : List Value} {x : DataW H × List MemPlace} (ht : P.underlying t = some (.slice e)) (hC : P.cellsOf e = k)
    (hQ : ∀ n cs y, n < fuel → cs.length = k → DataW.trod enc P w base spare held n e cs = some y → Rows.uptoBulk y.1 ≤ N → ∃ x : α, cs = f x ∧ Q x)
    (h : DataW.trod enc P w base spare held fuel t cs = some x) (hN : Rows.uptoBulk x.1 ≤ N) : ∃ (A : Option Addr) (n c : Nat) (l : List α), cs = [.slice A n c] ∧ Shows w w.heap.size k A n (l.flatMap f) ∧ (∀ x ∈ l, Q x) ∧ (A = none → c = 0) ∧ n ≤ c ∧ c ≤ maxLen := by
  rcases DataW.trod_slice ht h with ⟨hcs, _⟩ | ⟨a, len, cap, elems, rest, n, hn, hcs, hx, _, hl, hm, hlen, hi, _, _⟩
  · exact ⟨none, 0, 0, [], hcs, ⟨by simp, fun h => absurd h (by decide)⟩, by simp, fun _ => rfl, Nat.le_refl _, Nat.zero_le _⟩
  · have hF : ∀ i, ∃ r : α, i < len → Q r ∧ ∀ j u, (f r)[j]? = some u → w.cell? (a.add (i * k + j)) = some u := by
      intro i
      by_cases hin : i < len
      · have h2 := hi i hin
        have hi' : i < elems.length := by rw [hlen]; exact hin
        rw [List.getElem?_eq_getElem hi'] at h2
        obtain ⟨cs', hc, htr⟩ := Option.bind_eq_some_iff.1 h2
        obtain ⟨_, hlen', hat⟩ := World.cells?_some hc
        rw [hC] at hlen' hat
        have hb : Rows.uptoBulk (elems[i]).1 ≤ N := by
          rw [hx] at hN
          exact Nat.le_trans (blk_slice (List.mem_map_of_mem (f := (·.1)) (List.getElem_mem hi'))) hN
        obtain ⟨r, rfl, hr⟩ := hQ n cs' _ (by omega) hlen' htr hb
        refine ⟨r, fun _ => ⟨hr, fun j u hu => ?_⟩⟩
        have hj : j < k := by have := (List.getElem?_eq_some_iff.1 hu).1; rw [hlen'] at this; exact this
        have := hat j hj
        rw [hu] at this
        rw [← this, ← Go.Deep.add_add]
      · exact ⟨z, fun h => absurd h hin⟩
    refine ⟨some a, len, cap, (List.range len).map fun i => Classical.choose (hF i), hcs, shows_rows f k hk hf _ fun i hi j u hu => (Classical.choose_spec (hF i) hi).2 j u hu, ?_, nofun, hl, hm⟩
    intro r hr
    obtain ⟨i, hi, rfl⟩ := List.mem_map.1 hr
    exact (Classical.choose_spec (hF i) (List.mem_range.1 hi)).1
theorem open_keysN {fuel : Nat} {cs : List Value} {x : DataW H × List MemPlace} (ht : P.underlying t = some (.slice e)) (hC : P.cellsOf e = 1) (he : P.underlying e = some .string) (h : DataW.trod enc P w base spare held fuel t cs = some x) (hN : Rows.uptoBulk x.1 ≤ N) :
    ∃ (A : Option Addr) (n c : Nat) (l : List ByteArray), cs = [.slice A n c] ∧ Shows w w.heap.size 1 A n (l.map Value.string) ∧ (∀ x ∈ l, x.size ≤ maxLen ∧ x.size ≤ N) ∧ (A = none → c = 0) ∧ n ≤ c ∧ c ≤ maxLen := by
  obtain ⟨A, n, c, l, h1, h2, h3⟩ := open_rowsN (fun s : ByteArray => [Value.string s]) ⟨#[]⟩ 1 (by decide) (fun _ => rfl) (fun s => s.size ≤ maxLen ∧ s.size ≤ N) ht hC (fun n cs y _ _ hy hb => by
    obtain ⟨s, e, hy1, hs⟩ := DataW.trod_string he hy
    rw [hy1] at hb
    exact ⟨s, e, hs, blk_str hb⟩) h hN
  have hfl : ∀ l : List ByteArray, l.flatMap (fun s => [Value.string s]) = l.map Value.string := by
    intro l
    induction l with
    | nil => rfl
    | cons x l ih => rw [List.flatMap_cons, ih]; rfl
  rw [hfl] at h2
  exact ⟨A, n, c, l, h1, h2, h3⟩
end
end Go.Proofs.Ytnfohlabmidliaa
/-
  Layer 10: a file that came in, opened; within the second form's bound each of its rows is short.
-/
namespace Go.Proofs.Ytnfohlabmidliaa
open Go.ChangeShapes Go.WideShapes Go.ChangeAt Go.RowKit Go.Deep
set_option linter.unusedVariables false

theorem bulk_pos {H : Type} (d : DataW H) : 1 ≤ Rows.uptoBulk d := by
  cases d with
  | lit x => cases x <;> simp [Rows.uptoBulk]
  | _ => simp [Rows.uptoBulk]
theorem bulk_len {H : Type} : ∀ l : List (DataW H), l.length ≤ Rows.uptoBulkAll l
  | [] => Nat.zero_le _
  | d :: r => by
    have h1 := bulk_pos d
    have h2 := bulk_len r
    rw [Rows.uptoBulkAll, List.length_cons]
    omega
theorem flat_one {α : Type} (f : α → Value) : ∀ l : List α, (l.flatMap fun x => [f x]) = l.map f
  | [] => rfl
  | a :: l => by rw [List.flatMap_cons, flat_one f l]; rfl
theorem u8_of {z : Int} (h : (Lit.int .u8 z).wf = true) : ∃ b : UInt8, bv b = .int .u8 z := by
  have h' : (decide (IntKind.u8.min ≤ z) && decide (z ≤ IntKind.u8.max)) = true := h
  rw [Bool.and_eq_true, decide_eq_true_iff, decide_eq_true_iff] at h'
  have h1 : 0 ≤ z := h'.1
  have h2 : z ≤ 255 := h'.2
  refine ⟨UInt8.ofNat z.toNat, ?_⟩
  unfold bv
  have : (UInt8.ofNat z.toNat).toNat = z.toNat := by simp; omega
  rw [this, Int.toNat_of_nonneg h1]
section
variable {H : Type} {enc : TypeId × Value → H} {P : Program} {w W : World} {base b0 : Nat} {spare : Nat → Bool} {held : Bool} {r : Reach} {t e : TypeId} {v : Value} {d : DataW H} {p : List MemPlace} {N : Nat}
theorem trod_lenN {fuel : Nat} {A : Option Addr} {n c : Nat} {x : DataW H × List MemPlace} (ht : P.underlying t = some (.slice e)) (h : DataW.trod enc P w base spare held fuel t [.slice A n c] = some x) (hN : Rows.uptoBulk x.1 ≤ N) : n ≤ N := by
  rcases DataW.trod_slice ht h with ⟨hcs, _⟩ | ⟨a, len, cap, elems, rest, n', hn, hcs, hx, _, hl, hm, hlen, hi, _, _⟩
  · simp at hcs
    omega
  · simp at hcs
    obtain ⟨_, rfl, _⟩ := hcs
    rw [hx] at hN
    have h1 := bulk_len (elems.map (·.1))
    rw [List.length_map, hlen] at h1
    simp only [Rows.uptoBulk] at hN
    omega
/-- A row of bytes that came in. -/
theorem trod_pieceN (ht : P.underlying t = some (.slice e)) (he : P.underlying e = some (.int .u8)) (hC : P.cellsOf e = 1) {fuel : Nat} {cs : List Value} {x : DataW H × List MemPlace} (h : DataW.trod enc P w base spare held fuel t cs = some x) (hN : Rows.uptoBulk x.1 ≤ N) : ∃ q : PcT, cs = [q.val] ∧ q.Ok w w.heap.size ∧ q.n ≤ N := by
  obtain ⟨A, n, c, l, rfl, hS, _, h1, h2, h3⟩ := open_rowsN (fun b : UInt8 => [bv b]) 0 1 (by decide) (fun _ => rfl) (fun _ => True) ht hC (fun n' cs' y _ hl hy _ => by
    obtain ⟨z, hz, _, hw⟩ := DataW.trod_int he hy
    obtain ⟨b, hb⟩ := u8_of hw
    exact ⟨b, by rw [hz, hb], trivial⟩) h hN
  rw [flat_one bv] at hS
  exact ⟨⟨A, n, c, l⟩, rfl, ⟨hS, h1, h2, h3⟩, trod_lenN ht h hN⟩
variable {f0 f1 f2 f3 f4 : Field} {eb : TypeId}
/-- A file that came in. -/
theorem came_fileN (ht : P.underlying t = some (.struct #[f0, f1, f2, f3, f4])) (hone : oneCellFields P #[f0, f1, f2, f3, f4] = true) (hC : P.cellsOf t = 5)
    (k0 : P.underlying f0.type = some (.slice eb)) (kb : P.underlying eb = some (.int .u8)) (cb : P.cellsOf eb = 1) (k1 : P.underlying f1.type = some (.slice f0.type)) (c1 : P.cellsOf f0.type = 1) (k2 : P.underlying f2.type = some (.int .i64)) (k3 : P.underlying f3.type = some (.int .i64)) (k4 : P.underlying f4.type = some .bool)
    (hv : Value.okWide P W r b0 t v) (h : DataW.Trod enc P w base spare held t v d p) (hN : Rows.uptoBulk d ≤ N) : ∃ X : FileT, v = X.agg ∧ LieF w w.heap.size X ∧ X.F.n ≤ N ∧ X.ln ≤ N ∧ ∀ q ∈ X.L, q.n ≤ N := by
  obtain ⟨cs, rfl, hsz⟩ := okWide_struct ht hv
  obtain ⟨fuel, hf⟩ := h
  have hf' : DataW.trod enc P w base spare held fuel t cs.toList = some (d, p) := by simpa [Value.cells] using hf
  have hl5 : cs.toList.length = 5 := by simpa using hsz.trans hC
  obtain ⟨cs⟩ := cs
  simp only at hf' hl5
  match cs, hl5 with
  | [c0, c1', c2, c3, c4], _ =>
    obtain ⟨xs, n, hn, hx, _, hlen, hg⟩ := DataW.trod_struct ht hf'
    obtain ⟨o0, q0⟩ := hone_of hone 0 f0 rfl
    obtain ⟨o1, q1⟩ := hone_of hone 1 f1 rfl
    obtain ⟨o2, q2⟩ := hone_of hone 2 f2 rfl
    obtain ⟨o3, q3⟩ := hone_of hone 3 f3 rfl
    obtain ⟨o4, q4⟩ := hone_of hone 4 f4 rfl
    match xs, hlen with
    | [y0, y1, y2, y3, y4], _ =>
      have hy0 : DataW.trod enc P w base spare held n f0.type [c0] = some y0 := by simpa [o0, q0] using hg 0 f0 rfl
      have hy1 : DataW.trod enc P w base spare held n f1.type [c1'] = some y1 := by simpa [o1, q1] using hg 1 f1 rfl
      have hy2 : DataW.trod enc P w base spare held n f2.type [c2] = some y2 := by simpa [o2, q2] using hg 2 f2 rfl
      have hy3 : DataW.trod enc P w base spare held n f3.type [c3] = some y3 := by simpa [o3, q3] using hg 3 f3 rfl
      have hy4 : DataW.trod enc P w base spare held n f4.type [c4] = some y4 := by simpa [o4, q4] using hg 4 f4 rfl
      have hb : ∀ y ∈ [y0, y1, y2, y3, y4], Rows.uptoBulk y.1 ≤ N := fun y hy => by
        have hd : d = _ := (Prod.ext_iff.1 hx).1
        rw [hd] at hN
        exact Nat.le_trans (blk_agg (List.mem_map_of_mem (f := (·.1)) hy)) hN
      obtain ⟨F, e0, hF, nF⟩ := trod_pieceN k0 kb cb hy0 (hb y0 (by simp))
      obtain ⟨A, m, c, L, e1, hS, hL, a1, a2, a3⟩ := open_rowsN (fun q : PcT => [q.val]) ⟨none, 0, 0, []⟩ 1 (by decide) (fun _ => rfl) (fun q => q.Ok w w.heap.size ∧ q.n ≤ N) k1 c1 (fun n' cs' y _ hl' hy' hb' => by
        obtain ⟨q, hq, h1, h2⟩ := trod_pieceN k0 kb cb hy' hb'
        exact ⟨q, hq, h1, h2⟩) hy1 (hb y1 (by simp))
      obtain ⟨z2, e2, _, w2⟩ := DataW.trod_int k2 hy2
      obtain ⟨z3, e3, _, w3⟩ := DataW.trod_int k3 hy3
      obtain ⟨z4, e4, _⟩ := DataW.trod_bool k4 hy4
      simp only [List.cons.injEq, and_true] at e0 e1 e2 e3 e4
      subst e0 e1 e2 e3 e4
      rw [flat_one PcT.val] at hS
      exact ⟨⟨F, A, m, c, L, z2, z3, z4⟩, rfl, ⟨hF, hS, fun q hq => (hL q hq).1, a1, a2, a3, w2, w3⟩, nF, trod_lenN k1 hy1 (hb y1 (by simp)), fun q hq => (hL q hq).2⟩
end
end Go.Proofs.Ytnfohlabmidliaa
/-
  Layer 14: a node that came in, opened.
-/
namespace Go.Proofs.Ytnfohlabmidliaa
open Go.ChangeShapes Go.WideShapes Go.ChangeAt Go.RowKit Go.Deep
set_option linter.unusedVariables false

section
variable {H : Type} {enc : TypeId × Value → H} {P : Program} {w W : World} {base b0 : Nat} {spare : Nat → Bool} {held : Bool} {r : Reach} {t e : TypeId} {v : Value} {d : DataW H} {p : List MemPlace} {N : Nat}
variable {f0 f1 f2 g0 g1 g2 g3 h0 h1 h2 q0 q1 q2 q3 q4 q5 : Field} {eb ei ek : TypeId}
/-- An item that came in. -/
theorem trod_itemN (ht : P.underlying t = some (.struct #[g0, g1, g2, g3])) (o0 : g0.offset = 0) (o1 : g1.offset = 1) (o2 : g2.offset = 2) (o3 : g3.offset = 3) (c0 : P.cellsOf g0.type = 1) (c1 : P.cellsOf g1.type = 1) (c2 : P.cellsOf g2.type = 1) (c3 : P.cellsOf g3.type = 1)
    (k0 : P.underlying g0.type = some (.slice eb)) (k1 : P.underlying g1.type = some (.slice eb)) (kb : P.underlying eb = some (.int .u8)) (cb : P.cellsOf eb = 1) (k2 : P.underlying g2.type = some .bool) (k3 : P.underlying g3.type = some (.int .i64))
    {fuel : Nat} {cs : List Value} (hl : cs.length = 4) {x : DataW H × List MemPlace} (h : DataW.trod enc P w base spare held fuel t cs = some x) (hN : Rows.uptoBulk x.1 ≤ N) : ∃ y : ItT, cs = y.cells ∧ y.Ok w w.heap.size := by
  match cs, hl with
  | [x0, x1, x2, x3], _ =>
    obtain ⟨y0, y1, y2, y3, m, hx, _, hy0, hy1, hy2, hy3⟩ := Go.Joins.trod_struct4 ht h
    rw [o0, c0] at hy0
    rw [o1, c1] at hy1
    rw [o2, c2] at hy2
    rw [o3, c3] at hy3
    rw [hx] at hN
    obtain ⟨a, e0, ha, _⟩ := trod_pieceN k0 kb cb hy0 (Nat.le_trans (blk_agg (by simp)) hN)
    obtain ⟨b, e1, hb, _⟩ := trod_pieceN k1 kb cb hy1 (Nat.le_trans (blk_agg (by simp)) hN)
    obtain ⟨z2, e2, _⟩ := DataW.trod_bool k2 hy2
    obtain ⟨z3, e3, _, w3⟩ := DataW.trod_int k3 hy3
    simp at e0 e1 e2 e3
    subst e0 e1 e2 e3
    exact ⟨⟨a, b, z2, z3⟩, rfl, ⟨ha, hb, wf_i64 w3⟩⟩
/-- A kid that came in. -/
theorem trod_kidN (ht : P.underlying t = some (.struct #[h0, h1, h2])) (o0 : h0.offset = 0) (o1 : h1.offset = 1) (o2 : h2.offset = 2) (c0 : P.cellsOf h0.type = 1) (c1 : P.cellsOf h1.type = 1) (c2 : P.cellsOf h2.type = 6)
    (k0 : P.underlying h0.type = some (.slice eb)) (kb : P.underlying eb = some (.int .u8)) (cb : P.cellsOf eb = 1) (k1 : P.underlying h1.type = some (.int .i64))
    (k2 : P.underlying h2.type = some (.struct #[q0, q1, q2, q3, q4, q5])) (hone : oneCellFields P #[q0, q1, q2, q3, q4, q5] = true)
    (u0 : P.underlying q0.type = some (.int .i64)) (u1 : P.underlying q1.type = some (.int .i64)) (u2 : P.underlying q2.type = some (.int .i64)) (u3 : P.underlying q3.type = some (.int .u64)) (u4 : P.underlying q4.type = some (.int .i64)) (u5 : P.underlying q5.type = some (.int .i64))
    {fuel : Nat} {cs : List Value} (hl : cs.length = 8) {x : DataW H × List MemPlace} (h : DataW.trod enc P w base spare held fuel t cs = some x) (hN : Rows.uptoBulk x.1 ≤ N) : ∃ y : KiT, cs = y.cells ∧ y.Ok w w.heap.size := by
  match cs, hl with
  | [x0, x1, x2, x3, x4, x5, x6, x7], _ =>
    obtain ⟨y0, y1, y2, m, hx, _, hy0, hy1, hy2⟩ := trod_struct3 ht h
    rw [o0, c0] at hy0
    rw [o1, c1] at hy1
    rw [o2, c2] at hy2
    rw [hx] at hN
    obtain ⟨a, e0, ha, _⟩ := trod_pieceN k0 kb cb hy0 (Nat.le_trans (blk_agg (by simp)) hN)
    obtain ⟨z1, e1, _, w1⟩ := DataW.trod_int k1 hy1
    obtain ⟨s, hs, e2⟩ := red_cells k2 hone c2 u0 u1 u2 u3 u4 u5 rfl hy2
    simp [RedT.cells] at e0 e1 e2
    obtain ⟨rfl, rfl, rfl, rfl, rfl, rfl⟩ := e2
    subst e0 e1
    exact ⟨⟨a, z1, s⟩, rfl, ⟨ha, wf_i64 w1, hs⟩⟩
/-- A node that came in. -/
theorem came_node (ht : P.underlying t = some (.struct #[f0, f1, f2])) (n0 : f0.offset = 0) (n1 : f1.offset = 1) (n2 : f2.offset = 2) (m0 : P.cellsOf f0.type = 1) (m1 : P.cellsOf f1.type = 1) (m2 : P.cellsOf f2.type = 1) (hC : P.cellsOf t = 3)
    (l0 : P.underlying f0.type = some .bool) (l1 : P.underlying f1.type = some (.slice ei)) (l2 : P.underlying f2.type = some (.slice ek)) (ci : P.cellsOf ei = 4) (ck : P.cellsOf ek = 8)
    (hti : P.underlying ei = some (.struct #[g0, g1, g2, g3])) (o0 : g0.offset = 0) (o1 : g1.offset = 1) (o2 : g2.offset = 2) (o3 : g3.offset = 3) (c0 : P.cellsOf g0.type = 1) (c1 : P.cellsOf g1.type = 1) (c2 : P.cellsOf g2.type = 1) (c3 : P.cellsOf g3.type = 1)
    (k0 : P.underlying g0.type = some (.slice eb)) (k1 : P.underlying g1.type = some (.slice eb)) (kb : P.underlying eb = some (.int .u8)) (cb : P.cellsOf eb = 1) (k2 : P.underlying g2.type = some .bool) (k3 : P.underlying g3.type = some (.int .i64))
    (htk : P.underlying ek = some (.struct #[h0, h1, h2])) (s0 : h0.offset = 0) (s1 : h1.offset = 1) (s2 : h2.offset = 2) (d0 : P.cellsOf h0.type = 1) (d1 : P.cellsOf h1.type = 1) (d2 : P.cellsOf h2.type = 6)
    (j0 : P.underlying h0.type = some (.slice eb)) (j1 : P.underlying h1.type = some (.int .i64))
    (j2 : P.underlying h2.type = some (.struct #[q0, q1, q2, q3, q4, q5])) (hone : oneCellFields P #[q0, q1, q2, q3, q4, q5] = true)
    (u0 : P.underlying q0.type = some (.int .i64)) (u1 : P.underlying q1.type = some (.int .i64)) (u2 : P.underlying q2.type = some (.int .i64)) (u3 : P.underlying q3.type = some (.int .u64)) (u4 : P.underlying q4.type = some (.int .i64)) (u5 : P.underlying q5.type = some (.int .i64))
    (hv : Value.okWide P W r b0 t v) (h : DataW.Trod enc P w base spare held t v d p) : ∃ X : NoT, v = X.agg ∧ LieN w w.heap.size X := by
  obtain ⟨cs, rfl, hsz⟩ := okWide_struct ht hv
  rw [hC] at hsz
  obtain ⟨fuel, hf⟩ := h
  obtain ⟨l⟩ := cs
  match l, hsz with
  | [x0, x1, x2], _ =>
    have hf' : DataW.trod enc P w base spare held fuel t [x0, x1, x2] = some (d, p) := by simpa [Value.cells] using hf
    obtain ⟨y0, y1, y2, m, hx, _, hy0, hy1, hy2⟩ := trod_struct3 ht hf'
    rw [n0, m0] at hy0
    rw [n1, m1] at hy1
    rw [n2, m2] at hy2
    obtain ⟨z0, e0, _⟩ := DataW.trod_bool l0 hy0
    obtain ⟨A1, a1, b1, L1, e1, hS1, hL1, p1, p2, p3⟩ := open_rowsN (N := Rows.uptoBulk y1.1) ItT.cells ⟨⟨none, 0, 0, []⟩, ⟨none, 0, 0, []⟩, false, 0⟩ 4 (by decide) (fun _ => rfl) (fun x => x.Ok w w.heap.size) l1 ci (fun n' cs' y _ hl' hy' hb' => by
      obtain ⟨q, hq, h1⟩ := trod_itemN hti o0 o1 o2 o3 c0 c1 c2 c3 k0 k1 kb cb k2 k3 hl' hy' hb'
      exact ⟨q, hq, h1⟩) hy1 (Nat.le_refl _)
    obtain ⟨A2, a2, b2, L2, e2, hS2, hL2, r1, r2, r3⟩ := open_rowsN (N := Rows.uptoBulk y2.1) KiT.cells ⟨⟨none, 0, 0, []⟩, 0, RedT.zero⟩ 8 (by decide) (fun _ => rfl) (fun x => x.Ok w w.heap.size) l2 ck (fun n' cs' y _ hl' hy' hb' => by
      obtain ⟨q, hq, h1⟩ := trod_kidN htk s0 s1 s2 d0 d1 d2 j0 kb cb j1 j2 hone u0 u1 u2 u3 u4 u5 hl' hy' hb'
      exact ⟨q, hq, h1⟩) hy2 (Nat.le_refl _)
    simp at e0 e1 e2
    subst e0 e1 e2
    exact ⟨⟨z0, A1, a1, b1, L1, A2, a2, b2, L2⟩, rfl, ⟨hS1, hL1, p1, p2, p3, hS2, hL2, r1, r2, r3⟩⟩
end
end Go.Proofs.Ytnfohlabmidliaa
