/-
  Layer 13: the reduction of one row.
-/
import Derived.Test.YtinaecmpigenoaaMonR
import Derived.Deep.CutRange
namespace Go.Proofs.Ytinaecmpigenoaa
open Go.RowKit
attribute [local go_sem ↓] Go.wp_at_zero Go.wp_at_succ

theorem new_frozen {w w1 : World} {C : Array Value} {t : TypeId} (hb : Below (w.alloc (.cells C t)).heap.size (w.alloc (.cells C t)) w1) (k : Nat) : w1.frozen? ⟨w.heap.size, k, none⟩ = false := by
  rw [hb.frozen (p := ⟨w.heap.size, k, none⟩) (by simp)]
  go_simp
/-- The six cells of a new variable, in a later world. -/
theorem six_new {w w1 : World} {a b c d e f : Value} {t : TypeId} {g : Nat} (hg : w.heap.size = g) (hb : Below (w.alloc (.cells #[a, b, c, d, e, f] t)).heap.size (w.alloc (.cells #[a, b, c, d, e, f] t)) w1) :
    (w1.cell? ⟨g, 0, none⟩ = some a ∧ w1.cell? ⟨g, 1, none⟩ = some b ∧ w1.cell? ⟨g, 2, none⟩ = some c ∧ w1.cell? ⟨g, 3, none⟩ = some d ∧ w1.cell? ⟨g, 4, none⟩ = some e ∧ w1.cell? ⟨g, 5, none⟩ = some f) ∧
    (w1.frozen? ⟨g, 0, none⟩ = false ∧ w1.frozen? ⟨g, 1, none⟩ = false ∧ w1.frozen? ⟨g, 2, none⟩ = false ∧ w1.frozen? ⟨g, 3, none⟩ = false ∧ w1.frozen? ⟨g, 4, none⟩ = false ∧ w1.frozen? ⟨g, 5, none⟩ = false) := by
  subst hg
  exact ⟨⟨new_later hb 0 rfl, new_later hb 1 rfl, new_later hb 2 rfl, new_later hb 3 rfl, new_later hb 4 rfl, new_later hb 5 rfl⟩, new_frozen hb 0, new_frozen hb 1, new_frozen hb 2, new_frozen hb 3, new_frozen hb 4, new_frozen hb 5⟩
/-- Six cells of a variable of one's own. -/
def Six (w : World) (g : Nat) (a b c d e f : Value) : Prop :=
    (w.cell? ⟨g, 0, none⟩ = some a ∧ w.cell? ⟨g, 1, none⟩ = some b ∧ w.cell? ⟨g, 2, none⟩ = some c ∧ w.cell? ⟨g, 3, none⟩ = some d ∧ w.cell? ⟨g, 4, none⟩ = some e ∧ w.cell? ⟨g, 5, none⟩ = some f) ∧
    (w.frozen? ⟨g, 0, none⟩ = false ∧ w.frozen? ⟨g, 1, none⟩ = false ∧ w.frozen? ⟨g, 2, none⟩ = false ∧ w.frozen? ⟨g, 3, none⟩ = false ∧ w.frozen? ⟨g, 4, none⟩ = false ∧ w.frozen? ⟨g, 5, none⟩ = false)
theorem Six.alloc {w : World} {g : Nat} {a b c d e f : Value} (o : Obj) (h : Six w g a b c d e f) : Six (w.alloc o) g a b c d e f := by
  obtain ⟨⟨r0, r1, r2, r3, r4, r5⟩, f0, f1, f2, f3, f4, f5⟩ := h
  exact ⟨⟨cell_keep r0 o, cell_keep r1 o, cell_keep r2 o, cell_keep r3 o, cell_keep r4 o, cell_keep r5 o⟩, (frozen_keep r0 o).trans f0, (frozen_keep r1 o).trans f1, (frozen_keep r2 o).trans f2, (frozen_keep r3 o).trans f3, (frozen_keep r4 o).trans f4, (frozen_keep r5 o).trans f5⟩
theorem Six.below {w w1 : World} {g B : Nat} {a b c d e f : Value} (h : Six w g a b c d e f) (hb : Below B w w1) (hB : B = w.heap.size) : Six w1 g a b c d e f := by
  subst hB
  obtain ⟨⟨r0, r1, r2, r3, r4, r5⟩, f0, f1, f2, f3, f4, f5⟩ := h
  exact ⟨⟨kept_later hb r0, kept_later hb r1, kept_later hb r2, kept_later hb r3, kept_later hb r4, kept_later hb r5⟩, (hb.frozen (World.block_lt_of_cell? w _ r0)).trans f0, (hb.frozen (World.block_lt_of_cell? w _ r1)).trans f1, (hb.frozen (World.block_lt_of_cell? w _ r2)).trans f2, (hb.frozen (World.block_lt_of_cell? w _ r3)).trans f3, (hb.frozen (World.block_lt_of_cell? w _ r4)).trans f4, (hb.frozen (World.block_lt_of_cell? w _ r5)).trans f5⟩
theorem Six.new (w : World) (a b c d e f : Value) (t : TypeId) : Six (w.alloc (.cells #[a, b, c, d, e, f] t)) w.heap.size a b c d e f := six_new rfl (Below.refl _ _)
theorem below_set6 {B g : Nat} {w w1 : World} {a b c d e f : Value} (h : Below B w w1) (hg : B ≤ g) : Below B w ((((((w1.setCell ⟨g, 0, none⟩ a).setCell ⟨g, 1, none⟩ b).setCell ⟨g, 2, none⟩ c).setCell ⟨g, 3, none⟩ d).setCell ⟨g, 4, none⟩ e).setCell ⟨g, 5, none⟩ f) :=
  (((((h.setCell hg a).setCell hg b).setCell hg c).setCell hg d).setCell hg e).setCell hg f
/-- A row. -/
def itemV (A1 : Option Addr) (n1 c1 : Nat) (A2 : Option Addr) (n2 c2 : Nat) (b : Bool) (n : Int) : Value := .agg #[.slice A1 n1 c1, .slice A2 n2 c2, .bool b, .int .i64 n]
/-- The reduction of a row. -/
def oneV (b : Bool) (n : Int) : Value := if b then redV 1 1 n n n else redV 1 0 0 0 0
theorem oneV_no (n : Int) : oneV false n = .agg #[.int .i64 1, .int .i64 0, .int .i64 0, .int .u64 0, .int .i64 0, .int .i64 0] := by
  unfold oneV redV
  rw [if_neg Bool.false_ne_true, hl_zero.1, hl_zero.2]
theorem oneV_yes (n : Int) : oneV true n = .agg #[.int .i64 1, .int .i64 1, .int .i64 (hiI n), .int .u64 (loI n), .int .i64 n, .int .i64 n] := rfl

set_option maxHeartbeats 1000000 in
theorem one_any (A1 : Option Addr) (n1 c1 : Nat) (A2 : Option Addr) (n2 c2 : Nat) (b : Bool) (n : Int) (w : World) (hn : R64 n) :
    Calls Try.prog 11 #[itemV A1 n1 c1 A2 n2 c2 b n] w fun e w' => e = .returned (oneV b n) ∧ Below w.heap.size w w' := by
  have hb0 := ((Below.refl w.heap.size w).alloc (Nat.le_refl _) (.cells #[.slice A1 n1 c1, .slice A2 n2 c2, .bool b, .int .i64 n] 27)).alloc (by simp) (.cells #[.int .i64 0, .int .i64 0, .int .i64 0, .int .u64 0, .int .i64 0, .int .i64 0] 24)
  unfold itemV
  cases b
  · have Hr := Lib.hid (oneV_no n)
    go_enter Try.func11, Try.ntmps11
    go_wp2
    refine bodyPost_ret (v := .agg #[.int .i64 1, .int .i64 0, .int .i64 0, .int .u64 0, .int .i64 0, .int .i64 0]) (by simp [results, Try.results11, go_sem]) rfl ⟨by rw [Hr.out], ((Below.refl _ _).alloc (Nat.le_refl _) _).alloc (by simp) _⟩
  · have Hr := Lib.hid (oneV_yes n)
    go_enter Try.func11, Try.ntmps11
    go_wp2_with fail
    refine (sumOf_agg n _ hn).mono ?_
    rintro e w1 ⟨rfl, hb1⟩
    have hsix : Six w1 (w.heap.size + 1) _ _ _ _ _ _ := six_new (g := w.heap.size + 1) (by simp) hb1
    have z2 : w.heap.size + 1 < w1.heap.size := World.block_lt_of_cell? w1 _ hsix.1.1
    obtain ⟨⟨r0, r1, r2, r3, r4, r5⟩, f0, f1, f2, f3, f4, f5⟩ := hsix.alloc (.cells #[.int .i64 (hiI n), .int .u64 (loI n)] 75)
    have d3 : w1.cell? ⟨w.heap.size, 3, none⟩ = some (.int .i64 n) := (hb1.cell (p := ⟨w.heap.size, 3, none⟩) (by simp; omega)).trans (cell_keep (World.cell?_alloc_new w #[.slice A1 n1 c1, .slice A2 n2 c2, .bool true, .int .i64 n] 27 3) _)
    have hb2 := hb0.trans (hb1.mono hb0.size)
    have s2 := hb2.size
    have d3 := cell_keep d3 (.cells #[.int .i64 (hiI n), .int .u64 (loI n)] 75)
    obtain ⟨⟨q0, q1, q2, q3, q4, q5⟩, p0, p1, p2, p3, p4, p5⟩ := hsix
    clear hb1 hb0
    go_wp2
    refine bodyPost_ret (v := .agg #[.int .i64 1, .int .i64 1, .int .i64 (hiI n), .int .u64 (loI n), .int .i64 n, .int .i64 n]) ?_ rfl ⟨by rw [Hr.out], ?_⟩
    · simp [results, Try.results11, go_sem, *]
    · exact (below_set6 hb2 (by omega)).alloc (by simp [World.setCell]; omega) _

set_option maxHeartbeats 1000000 in
theorem refOne_any (A1 : Option Addr) (n1 c1 : Nat) (A2 : Option Addr) (n2 c2 : Nat) (b : Bool) (n : Int) (w : World) (hn : R64 n) :
    Calls Try.prog 12 #[itemV A1 n1 c1 A2 n2 c2 b n] w fun e w' => e = .returned (oneV b n) ∧ Below w.heap.size w w' := by
  obtain ⟨W1, hW1⟩ : ∃ W1, (w.alloc (.cells #[.slice A1 n1 c1, .slice A2 n2 c2, .bool b, .int .i64 n] 27)).alloc (.cells #[.int .i64 0, .int .i64 0, .int .i64 0, .int .u64 0, .int .i64 0, .int .i64 0] 24) = W1 := ⟨_, rfl⟩
  have hb0 : Below w.heap.size w W1 := by rw [← hW1]; exact ((Below.refl w.heap.size w).alloc (Nat.le_refl _) _).alloc (by simp) _
  have hz : W1.heap.size = w.heap.size + 2 := by rw [← hW1]; simp
  have h1 : Six W1 (w.heap.size + 1) (.int .i64 0) (.int .i64 0) (.int .i64 0) (.int .u64 0) (.int .i64 0) (.int .i64 0) := by
    rw [← hW1]
    have := Six.new (w.alloc (.cells #[.slice A1 n1 c1, .slice A2 n2 c2, .bool b, .int .i64 n] 27)) (.int .i64 0) (.int .i64 0) (.int .i64 0) (.int .u64 0) (.int .i64 0) (.int .i64 0) 24
    simpa using this
  have h2 : Six (W1.alloc (.cells #[.int .i64 1, .int .i64 0, .int .i64 0, .int .u64 0, .int .i64 0, .int .i64 0] 24)) (w.heap.size + 2) (.int .i64 1) (.int .i64 0) (.int .i64 0) (.int .u64 0) (.int .i64 0) (.int .i64 0) := by
    have := Six.new W1 (.int .i64 1) (.int .i64 0) (.int .i64 0) (.int .u64 0) (.int .i64 0) (.int .i64 0) 24
    rwa [hz] at this
  have h3 := h1.alloc (.cells #[.int .i64 1, .int .i64 0, .int .i64 0, .int .u64 0, .int .i64 0, .int .i64 0] 24)
  have d2 : W1.cell? ⟨w.heap.size, 2, none⟩ = some (.bool b) := by
    rw [← hW1]
    exact cell_keep (World.cell?_alloc_new w #[.slice A1 n1 c1, .slice A2 n2 c2, .bool b, .int .i64 n] 27 2) _
  have d3 : W1.cell? ⟨w.heap.size, 3, none⟩ = some (.int .i64 n) := by
    rw [← hW1]
    exact cell_keep (World.cell?_alloc_new w #[.slice A1 n1 c1, .slice A2 n2 c2, .bool b, .int .i64 n] 27 3) _
  have e2 := cell_keep d2 (.cells #[.int .i64 1, .int .i64 0, .int .i64 0, .int .u64 0, .int .i64 0, .int .i64 0] 24)
  have e3 := cell_keep d3 (.cells #[.int .i64 1, .int .i64 0, .int .i64 0, .int .u64 0, .int .i64 0, .int .i64 0] 24)
  have hb1 := hb0.alloc (by omega) (.cells #[.int .i64 1, .int .i64 0, .int .i64 0, .int .u64 0, .int .i64 0, .int .i64 0] 24)
  have hz2 : (W1.alloc (.cells #[.int .i64 1, .int .i64 0, .int .i64 0, .int .u64 0, .int .i64 0, .int .i64 0] 24)).heap.size = w.heap.size + 3 := by simp [hz]
  unfold itemV
  cases b
  · have Hr := Lib.hid (oneV_no n)
    obtain ⟨⟨r0, r1, r2, r3, r4, r5⟩, f0, f1, f2, f3, f4, f5⟩ := h1
    obtain ⟨⟨q0, q1, q2, q3, q4, q5⟩, p0, p1, p2, p3, p4, p5⟩ := h3
    obtain ⟨⟨k0, k1, k2, k3, k4, k5⟩, l0, l1, l2, l3, l4, l5⟩ := h2
    go_enter Try.func12, Try.ntmps12
    go_wp2
    refine bodyPost_ret (v := .agg #[.int .i64 1, .int .i64 0, .int .i64 0, .int .u64 0, .int .i64 0, .int .i64 0]) ?_ rfl ⟨by rw [Hr.out], ?_⟩
    · simp [results, Try.results12, go_sem, *]
    · exact (below_set6 hb0 (by omega)).alloc (by simp [World.setCell]; omega) _
  · have Hr := Lib.hid (oneV_yes n)
    have H1 := Lib.hid h1
    have H2 := Lib.hid h2
    have H3 := Lib.hid h3
    clear h1 h2 h3
    go_enter Try.func12, Try.ntmps12
    go_wp2_with fail
    refine (refOf_any n _ hn).mono ?_
    rintro e w1 ⟨rfl, hb5⟩
    have x1 := H3.out.below hb5 rfl
    have x2 := H2.out.below hb5 rfl
    have d3 : w1.cell? ⟨w.heap.size, 3, none⟩ = some (.int .i64 n) := kept_later hb5 e3
    have d2 : w1.cell? ⟨w.heap.size, 2, none⟩ = some (.bool true) := kept_later hb5 e2
    have g3 := cell_keep d3 (.cells #[.int .i64 (hiI n), .int .u64 (loI n)] 66)
    have hb6 := hb1.trans (hb5.mono hb1.size)
    have s6 := hb6.size
    have z6 : w.heap.size + 2 < w1.heap.size := World.block_lt_of_cell? w1 _ x2.1.1
    have y1 := x1.alloc (.cells #[.int .i64 (hiI n), .int .u64 (loI n)] 66)
    have y2 := x2.alloc (.cells #[.int .i64 (hiI n), .int .u64 (loI n)] 66)
    clear hb5 e2 e3 hb0 hb1
    have t0 : (w1.alloc (.cells #[.int .i64 (hiI n), .int .u64 (loI n)] 66)).cell? ⟨w1.heap.size, 0, none⟩ = some (.int .i64 (hiI n)) := World.cell?_alloc_new w1 _ _ 0
    have t1 : (w1.alloc (.cells #[.int .i64 (hiI n), .int .u64 (loI n)] 66)).cell? ⟨w1.heap.size, 1, none⟩ = some (.int .u64 (loI n)) := World.cell?_alloc_new w1 _ _ 1
    have hb7 := hb6.alloc s6 (.cells #[.int .i64 (hiI n), .int .u64 (loI n)] 66)
    go_upto_region 4 with fail
    generalize w1.alloc (.cells #[.int .i64 (hiI n), .int .u64 (loI n)] 66) = W3 at *
    generalize w1.heap.size = G at *
    clear x1 x2 d3 d2 hb6
    obtain ⟨⟨k0, k1, k2, k3, k4, k5⟩, l0, l1, l2, l3, l4, l5⟩ := y1
    obtain ⟨⟨i0, i1, i2, i3, i4, i5⟩, j0, j1, j2, j3, j4, j5⟩ := y2
    have n1 : ¬ w.heap.size + 1 = w.heap.size + 2 := by omega
    have n2 : ¬ w.heap.size + 2 = w.heap.size + 1 := by omega
    go_wp2
    refine bodyPost_ret (v := .agg #[.int .i64 1, .int .i64 1, .int .i64 (hiI n), .int .u64 (loI n), .int .i64 n, .int .i64 n]) ?_ rfl ⟨by rw [Hr.out], ?_⟩
    · simp [results, Try.results12, go_sem, *]
    · exact below_set6 (below_set6 hb7 (by omega)) (by omega)
end Go.Proofs.Ytinaecmpigenoaa
