import Derived.Test.YtnfohlabmidliaaGae
import Derived.Test.YtnfohlabmidliaaGaf
import Derived.Test.YtnfohlabmidliaaVMonB
/-
  The reference of layer 13, at nodes' entries: One, Both, All.
-/
namespace Go.Proofs.Ytnfohlabmidliaa
open Go.RowKit
set_option linter.unusedVariables false
attribute [local go_sem ↓] Go.wp_at_zero Go.wp_at_succ

/-- The join of reductions, one behind the other. -/
def jsum (l : List RedT) : RedT := l.foldl RedT.join RedT.zero
theorem jsum_next {l : List RedT} {k : Nat} {r : RedT} (h : l[k]? = some r) : jsum (l.take (k + 1)) = (jsum (l.take k)).join r := by
  unfold jsum
  rw [take_next h, List.foldl_append]
  rfl
def aggR (r : RedT) : Value := .agg #[.int .i64 r.c, .int .i64 r.i, .int .i64 (hiI r.v), .int .u64 (loI r.v), .int .i64 r.l, .int .i64 r.m]
theorem ones_from (L : List ItT) : ∀ a : RedT, ((L.map ItT.red).foldl RedT.join a).c = a.c + L.length ∧ a.i ≤ ((L.map ItT.red).foldl RedT.join a).i ∧ ((L.map ItT.red).foldl RedT.join a).i ≤ a.i + L.length := by
  induction L with
  | nil => intro a; simp
  | cons x L ih =>
    intro a
    rw [List.map_cons, List.foldl_cons]
    obtain ⟨h1, h2, h3⟩ := ih (a.join x.red)
    have e1 : (a.join x.red).c = a.c + 1 := rfl
    have e2 : (a.join x.red).i = a.i + o1 x.b := rfl
    have e3 : 0 ≤ o1 x.b ∧ o1 x.b ≤ 1 := by unfold o1; cases x.b <;> simp
    rw [e1] at h1
    rw [e2] at h2 h3
    rw [List.length_cons]
    refine ⟨by rw [h1]; omega, by omega, by omega⟩
theorem ones_at (L : List ItT) (k : Nat) (hk : L.length ≤ 1000) : (0 ≤ (jsum ((L.map ItT.red).take k)).c ∧ (jsum ((L.map ItT.red).take k)).c ≤ 1073741824) ∧ (0 ≤ (jsum ((L.map ItT.red).take k)).i ∧ (jsum ((L.map ItT.red).take k)).i ≤ 1073741824) := by
  rw [← List.map_take]
  obtain ⟨h1, h2, h3⟩ := ones_from (L.take k) RedT.zero
  have e1 : RedT.zero.c = 0 := rfl
  have e2 : RedT.zero.i = 0 := rfl
  have e3 : (L.take k).length ≤ 1000 := by rw [List.length_take]; omega
  rw [e1] at h1
  rw [e2] at h2 h3
  unfold jsum
  refine ⟨⟨by omega, by omega⟩, by omega, by omega⟩
theorem rBoth_agg (a r : RedT) (w : World) (h1 : 0 ≤ a.c ∧ a.c ≤ 1073741824) (h2 : 0 ≤ r.c ∧ r.c ≤ 1073741824) (h3 : 0 ≤ a.i ∧ a.i ≤ 1073741824) (h4 : 0 ≤ r.i ∧ r.i ≤ 1073741824) (hn : r.i = 0 → r.l = 0 ∧ r.m = 0) :
    Calls Try.prog 42 #[.agg #[.int .i64 a.c, .int .i64 a.i, .int .i64 (hiI a.v), .int .u64 (loI a.v), .int .i64 a.l, .int .i64 a.m], .agg #[.int .i64 r.c, .int .i64 r.i, .int .i64 (hiI r.v), .int .u64 (loI r.v), .int .i64 r.l, .int .i64 r.m]] w fun e w' => e = .returned (.agg #[.int .i64 (a.join r).c, .int .i64 (a.join r).i, .int .i64 (hiI (a.join r).v), .int .u64 (loI (a.join r).v), .int .i64 (a.join r).l, .int .i64 (a.join r).m]) ∧ Below w.heap.size w w' :=
  both_any a.c a.i a.v a.l a.m r.c r.i r.v r.l r.m w h1 h2 h3 h4 hn
theorem rOne_agg (x : ItT) (w : World) (hn : R64 x.n) :
    Calls Try.prog 55 #[.agg #[.slice x.k.A x.k.n x.k.c, .slice x.v.A x.v.n x.v.c, .bool x.b, .int .i64 x.n]] w fun e w' => e = .returned (.agg #[.int .i64 x.red.c, .int .i64 x.red.i, .int .i64 (hiI x.red.v), .int .u64 (loI x.red.v), .int .i64 x.red.l, .int .i64 x.red.m]) ∧ Below w.heap.size w w' := by
  refine (refOne_any x.k.A x.k.n x.k.c x.v.A x.v.n x.v.c x.b x.n w hn).mono ?_
  rintro e w' ⟨rfl, hb⟩
  exact ⟨by rw [one_row]; rfl, hb⟩
end Go.Proofs.Ytnfohlabmidliaa
