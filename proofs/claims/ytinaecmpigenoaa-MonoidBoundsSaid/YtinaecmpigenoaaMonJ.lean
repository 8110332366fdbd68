/-
  Package monoid: join.
-/
import Derived.Test.YtinaecmpigenoaaMonO
import Derived.RegionTactic
import Derived.Deep.CutBlock
namespace Go.Proofs.Ytinaecmpigenoaa
open Go.RowKit
attribute [local go_sem ↓] Go.wp_at_zero Go.wp_at_succ

theorem plus_aa (a b : Int) (w : World) : Calls Try.prog 42 #[.agg #[.int .i64 (hiI a), .int .u64 (loI a)], .agg #[.int .i64 (hiI b), .int .u64 (loI b)]] w fun e w' => e = .returned (.agg #[.int .i64 (hiI (a + b)), .int .u64 (loI (a + b))]) ∧ Below w.heap.size w w' := plus_any a b w
theorem six_rule {W0 : World} {g : Nat} {a b c d e f : Value} (h : Six W0 g a b c d e f) (W : World) (hb : Below W0.heap.size W0 W) : Six W g a b c d e f := h.below hb rfl

theorem set_far (w : World) (g k j : Nat) (x : Value) (h : k ≠ j) : (w.setCell ⟨g, k, none⟩ x).cell? ⟨g, j, none⟩ = w.cell? ⟨g, j, none⟩ :=
  World.cell?_setCell_other w _ _ _ (by intro e; injection e with _ e2; exact h e2)
theorem Six.other {w : World} {g g' k : Nat} {a b c d e f : Value} (h : Six w g a b c d e f) (hg : g' ≠ g) (x : Value) : Six (w.setCell ⟨g', k, none⟩ x) g a b c d e f := by
  have o : ∀ j, (w.setCell ⟨g', k, none⟩ x).cell? ⟨g, j, none⟩ = w.cell? ⟨g, j, none⟩ := fun j => World.cell?_setCell_other w _ _ _ (by intro e; injection e with e1; exact hg e1)
  obtain ⟨⟨r0, r1, r2, r3, r4, r5⟩, f0, f1, f2, f3, f4, f5⟩ := h
  exact ⟨⟨(o 0).trans r0, (o 1).trans r1, (o 2).trans r2, (o 3).trans r3, (o 4).trans r4, (o 5).trans r5⟩, (frozen_set _ _ _ _).trans f0, (frozen_set _ _ _ _).trans f1, (frozen_set _ _ _ _).trans f2, (frozen_set _ _ _ _).trans f3, (frozen_set _ _ _ _).trans f4, (frozen_set _ _ _ _).trans f5⟩
theorem Six.s0 {w : World} {g : Nat} {a b c d e f : Value} (h : Six w g a b c d e f) (x : Value) : Six (w.setCell ⟨g, 0, none⟩ x) g x b c d e f := by
  obtain ⟨⟨r0, r1, r2, r3, r4, r5⟩, f0, f1, f2, f3, f4, f5⟩ := h
  exact ⟨⟨cell_set r0 x, (set_far w g 0 1 x (by decide)).trans r1, (set_far w g 0 2 x (by decide)).trans r2, (set_far w g 0 3 x (by decide)).trans r3, (set_far w g 0 4 x (by decide)).trans r4, (set_far w g 0 5 x (by decide)).trans r5⟩, (frozen_set _ _ _ _).trans f0, (frozen_set _ _ _ _).trans f1, (frozen_set _ _ _ _).trans f2, (frozen_set _ _ _ _).trans f3, (frozen_set _ _ _ _).trans f4, (frozen_set _ _ _ _).trans f5⟩
theorem Six.s1 {w : World} {g : Nat} {a b c d e f : Value} (h : Six w g a b c d e f) (x : Value) : Six (w.setCell ⟨g, 1, none⟩ x) g a x c d e f := by
  obtain ⟨⟨r0, r1, r2, r3, r4, r5⟩, f0, f1, f2, f3, f4, f5⟩ := h
  exact ⟨⟨(set_far w g 1 0 x (by decide)).trans r0, cell_set r1 x, (set_far w g 1 2 x (by decide)).trans r2, (set_far w g 1 3 x (by decide)).trans r3, (set_far w g 1 4 x (by decide)).trans r4, (set_far w g 1 5 x (by decide)).trans r5⟩, (frozen_set _ _ _ _).trans f0, (frozen_set _ _ _ _).trans f1, (frozen_set _ _ _ _).trans f2, (frozen_set _ _ _ _).trans f3, (frozen_set _ _ _ _).trans f4, (frozen_set _ _ _ _).trans f5⟩
theorem Six.s2 {w : World} {g : Nat} {a b c d e f : Value} (h : Six w g a b c d e f) (x : Value) : Six (w.setCell ⟨g, 2, none⟩ x) g a b x d e f := by
  obtain ⟨⟨r0, r1, r2, r3, r4, r5⟩, f0, f1, f2, f3, f4, f5⟩ := h
  exact ⟨⟨(set_far w g 2 0 x (by decide)).trans r0, (set_far w g 2 1 x (by decide)).trans r1, cell_set r2 x, (set_far w g 2 3 x (by decide)).trans r3, (set_far w g 2 4 x (by decide)).trans r4, (set_far w g 2 5 x (by decide)).trans r5⟩, (frozen_set _ _ _ _).trans f0, (frozen_set _ _ _ _).trans f1, (frozen_set _ _ _ _).trans f2, (frozen_set _ _ _ _).trans f3, (frozen_set _ _ _ _).trans f4, (frozen_set _ _ _ _).trans f5⟩
theorem Six.s3 {w : World} {g : Nat} {a b c d e f : Value} (h : Six w g a b c d e f) (x : Value) : Six (w.setCell ⟨g, 3, none⟩ x) g a b c x e f := by
  obtain ⟨⟨r0, r1, r2, r3, r4, r5⟩, f0, f1, f2, f3, f4, f5⟩ := h
  exact ⟨⟨(set_far w g 3 0 x (by decide)).trans r0, (set_far w g 3 1 x (by decide)).trans r1, (set_far w g 3 2 x (by decide)).trans r2, cell_set r3 x, (set_far w g 3 4 x (by decide)).trans r4, (set_far w g 3 5 x (by decide)).trans r5⟩, (frozen_set _ _ _ _).trans f0, (frozen_set _ _ _ _).trans f1, (frozen_set _ _ _ _).trans f2, (frozen_set _ _ _ _).trans f3, (frozen_set _ _ _ _).trans f4, (frozen_set _ _ _ _).trans f5⟩
theorem Six.s4 {w : World} {g : Nat} {a b c d e f : Value} (h : Six w g a b c d e f) (x : Value) : Six (w.setCell ⟨g, 4, none⟩ x) g a b c d x f := by
  obtain ⟨⟨r0, r1, r2, r3, r4, r5⟩, f0, f1, f2, f3, f4, f5⟩ := h
  exact ⟨⟨(set_far w g 4 0 x (by decide)).trans r0, (set_far w g 4 1 x (by decide)).trans r1, (set_far w g 4 2 x (by decide)).trans r2, (set_far w g 4 3 x (by decide)).trans r3, cell_set r4 x, (set_far w g 4 5 x (by decide)).trans r5⟩, (frozen_set _ _ _ _).trans f0, (frozen_set _ _ _ _).trans f1, (frozen_set _ _ _ _).trans f2, (frozen_set _ _ _ _).trans f3, (frozen_set _ _ _ _).trans f4, (frozen_set _ _ _ _).trans f5⟩
theorem Six.s5 {w : World} {g : Nat} {a b c d e f : Value} (h : Six w g a b c d e f) (x : Value) : Six (w.setCell ⟨g, 5, none⟩ x) g a b c d e x := by
  obtain ⟨⟨r0, r1, r2, r3, r4, r5⟩, f0, f1, f2, f3, f4, f5⟩ := h
  exact ⟨⟨(set_far w g 5 0 x (by decide)).trans r0, (set_far w g 5 1 x (by decide)).trans r1, (set_far w g 5 2 x (by decide)).trans r2, (set_far w g 5 3 x (by decide)).trans r3, (set_far w g 5 4 x (by decide)).trans r4, cell_set r5 x⟩, (frozen_set _ _ _ _).trans f0, (frozen_set _ _ _ _).trans f1, (frozen_set _ _ _ _).trans f2, (frozen_set _ _ _ _).trans f3, (frozen_set _ _ _ _).trans f4, (frozen_set _ _ _ _).trans f5⟩
/-- The least and the greatest of two. -/
def jL (i1 i2 l1 l2 : Int) : Int := if i1 = 0 then l2 else if i2 = 0 then l1 else min l1 l2
def jM (i1 i2 m1 m2 : Int) : Int := if i1 = 0 then m2 else if i2 = 0 then m1 else max m1 m2

set_option maxRecDepth 20000 in
set_option maxHeartbeats 2000000 in
theorem join_any (c1 i1 v1 l1 m1 c2 i2 v2 l2 m2 : Int) (w : World) (hc1 : 0 ≤ c1 ∧ c1 ≤ 1073741824) (hc2 : 0 ≤ c2 ∧ c2 ≤ 1073741824) (hi1 : 0 ≤ i1 ∧ i1 ≤ 1073741824) (hi2 : 0 ≤ i2 ∧ i2 ≤ 1073741824) :
    Calls Try.prog 32 #[redV c1 i1 v1 l1 m1, redV c2 i2 v2 l2 m2] w fun e w' => e = .returned (redV (c1 + c2) (i1 + i2) (v1 + v2) (jL i1 i2 l1 l2) (jM i1 i2 m1 m2)) ∧ Below w.heap.size w w' := by
  obtain ⟨hc10, hc11⟩ := hc1
  obtain ⟨hc20, hc21⟩ := hc2
  obtain ⟨hi10, hi11⟩ := hi1
  obtain ⟨hi20, hi21⟩ := hi2
  obtain ⟨W0, hW0⟩ : ∃ W0, (((w.alloc (.cells #[.int .i64 c1, .int .i64 i1, .int .i64 (hiI v1), .int .u64 (loI v1), .int .i64 l1, .int .i64 m1] 24)).alloc (.cells #[.int .i64 c2, .int .i64 i2, .int .i64 (hiI v2), .int .u64 (loI v2), .int .i64 l2, .int .i64 m2] 24)).alloc (.cells #[.int .i64 0, .int .i64 0, .int .i64 0, .int .u64 0, .int .i64 0, .int .i64 0] 24)).alloc (.cells #[.int .i64 (c1 + c2), .int .i64 (i1 + i2), .int .i64 0, .int .u64 0, .int .i64 0, .int .i64 0] 24) = W0 := ⟨_, rfl⟩
  have hb0 : Below w.heap.size w W0 := by rw [← hW0]; exact ((((Below.refl _ _).alloc (Nat.le_refl _) _).alloc (by simp) _).alloc (by simp; omega) _).alloc (by simp; omega) _
  have hz : W0.heap.size = w.heap.size + 4 := by rw [← hW0]; simp
  have x1 : Six W0 w.heap.size (.int .i64 c1) (.int .i64 i1) (.int .i64 (hiI v1)) (.int .u64 (loI v1)) (.int .i64 l1) (.int .i64 m1) := by
    rw [← hW0]
    exact (((Six.new w _ _ _ _ _ _ _).alloc _).alloc _).alloc _
  have x2 : Six W0 (w.heap.size + 1) (.int .i64 c2) (.int .i64 i2) (.int .i64 (hiI v2)) (.int .u64 (loI v2)) (.int .i64 l2) (.int .i64 m2) := by
    rw [← hW0]
    have := (((Six.new (w.alloc (.cells #[.int .i64 c1, .int .i64 i1, .int .i64 (hiI v1), .int .u64 (loI v1), .int .i64 l1, .int .i64 m1] 24)) (.int .i64 c2) (.int .i64 i2) (.int .i64 (hiI v2)) (.int .u64 (loI v2)) (.int .i64 l2) (.int .i64 m2) 24).alloc (.cells #[.int .i64 0, .int .i64 0, .int .i64 0, .int .u64 0, .int .i64 0, .int .i64 0] 24)).alloc (.cells #[.int .i64 (c1 + c2), .int .i64 (i1 + i2), .int .i64 0, .int .u64 0, .int .i64 0, .int .i64 0] 24))
    simpa using this
  have x3 : Six W0 (w.heap.size + 1 + 1) (.int .i64 0) (.int .i64 0) (.int .i64 0) (.int .u64 0) (.int .i64 0) (.int .i64 0) := by
    rw [← hW0]
    have := ((Six.new ((w.alloc (.cells #[.int .i64 c1, .int .i64 i1, .int .i64 (hiI v1), .int .u64 (loI v1), .int .i64 l1, .int .i64 m1] 24)).alloc (.cells #[.int .i64 c2, .int .i64 i2, .int .i64 (hiI v2), .int .u64 (loI v2), .int .i64 l2, .int .i64 m2] 24)) (.int .i64 0) (.int .i64 0) (.int .i64 0) (.int .u64 0) (.int .i64 0) (.int .i64 0) 24).alloc (.cells #[.int .i64 (c1 + c2), .int .i64 (i1 + i2), .int .i64 0, .int .u64 0, .int .i64 0, .int .i64 0] 24))
    simpa using this
  have x4 : Six W0 (w.heap.size + 1 + 1 + 1) (.int .i64 (c1 + c2)) (.int .i64 (i1 + i2)) (.int .i64 0) (.int .u64 0) (.int .i64 0) (.int .i64 0) := by
    rw [← hW0]
    have := (Six.new (((w.alloc (.cells #[.int .i64 c1, .int .i64 i1, .int .i64 (hiI v1), .int .u64 (loI v1), .int .i64 l1, .int .i64 m1] 24)).alloc (.cells #[.int .i64 c2, .int .i64 i2, .int .i64 (hiI v2), .int .u64 (loI v2), .int .i64 l2, .int .i64 m2] 24)).alloc (.cells #[.int .i64 0, .int .i64 0, .int .i64 0, .int .u64 0, .int .i64 0, .int .i64 0] 24)) (.int .i64 (c1 + c2)) (.int .i64 (i1 + i2)) (.int .i64 0) (.int .u64 0) (.int .i64 0) (.int .i64 0) 24)
    simpa using this
  have a0 := fun W h => (six_rule x1 W h).1.1
  have a1 := fun W h => (six_rule x1 W h).1.2.1
  have a2 := fun W h => (six_rule x1 W h).1.2.2.1
  have a3 := fun W h => (six_rule x1 W h).1.2.2.2.1
  have a4 := fun W h => (six_rule x1 W h).1.2.2.2.2.1
  have a5 := fun W h => (six_rule x1 W h).1.2.2.2.2.2
  have b0 := fun W h => (six_rule x2 W h).1.1
  have b1 := fun W h => (six_rule x2 W h).1.2.1
  have b2 := fun W h => (six_rule x2 W h).1.2.2.1
  have b3 := fun W h => (six_rule x2 W h).1.2.2.2.1
  have b4 := fun W h => (six_rule x2 W h).1.2.2.2.2.1
  have b5 := fun W h => (six_rule x2 W h).1.2.2.2.2.2
  have HW0 := Lib.hid hW0
  have X1 := Lib.hid x1
  have X2 := Lib.hid x2
  have X3 := Lib.hid x3
  have X4 := Lib.hid x4
  have Hz := Lib.hid hz
  clear x1 x2 x3 x4 hz hW0
  unfold redV
  go_enter Try.func32, Try.ntmps32
  go_upto_region 2 with fail
  rw [HW0.out]
  clear HW0
  go_cut [6] (fun s3 wx => ∃ g : Nat, s3 = .pointer (some ⟨g, 0, none⟩) ∧ Below W0.heap.size W0 wx ∧ wx.cell? ⟨g, 0, none⟩ = some (.int .i64 (hiI (v1 + v2))) ∧ wx.cell? ⟨g, 1, none⟩ = some (.int .u64 (loI (v1 + v2))) ∧ W0.heap.size ≤ g)
  case first =>
    go_region_held3 (fun w' => Below W0.heap.size W0 w') (first | assumption | exact (Below.refl _ _).drew | exact ((Below.refl _ _).alloc (Nat.le_refl _) _).drew | (refine S_alloc ?_; assumption) | (refine S_call ?_ ?_ ?_; assumption; assumption; rfl) | (refine S_set2 ?_ ?_; assumption; first | exact Nat.le_refl _ | exact Below.size (by assumption))) (first
      | (go_at_call 35; with_reducible refine (total_agg c1 i1 v1 l1 m1 _).mono ?_; rintro e wA ⟨rfl, hbA⟩; have hSA := S_call hbA (by assumption) rfl; (first | (have kk := keep_two hbA rfl kk; obtain ⟨k0, k1, f0, f1⟩ := id kk) | (have kk := new_two hbA rfl; obtain ⟨k0, k1, f0, f1⟩ := id kk) | (have kk := new_two (below_undrew hbA) rfl; obtain ⟨k0, k1, f0, f1⟩ := id kk) | skip))
      | (go_at_call 35; with_reducible refine (total_agg c2 i2 v2 l2 m2 _).mono ?_; rintro e wB ⟨rfl, hbB⟩; have hSB := S_call hbB (by assumption) rfl; (first | (have kk := keep_two hbB rfl kk; obtain ⟨k0, k1, f0, f1⟩ := id kk) | (have kk := new_two hbB rfl; obtain ⟨k0, k1, f0, f1⟩ := id kk) | (have kk := new_two (below_undrew hbB) rfl; obtain ⟨k0, k1, f0, f1⟩ := id kk) | skip))
      | (go_at_call 42; with_reducible refine (plus_aa v1 v2 _).mono ?_; rintro e wC ⟨rfl, hbC⟩; have hSC := S_call hbC (by assumption) rfl; (first | (have kk := keep_two hbC rfl kk; obtain ⟨k0, k1, f0, f1⟩ := id kk) | (have kk := new_two hbC rfl; obtain ⟨k0, k1, f0, f1⟩ := id kk) | (have kk := new_two (below_undrew hbC) rfl; obtain ⟨k0, k1, f0, f1⟩ := id kk) | skip)))
    all_goals
      go_wp2_with fail
      go_meet
      case rel => exact ⟨_, rfl, by assumption, by go_simp, by go_simp, by first | exact Nat.le_refl _ | exact Below.size (by assumption)⟩
  case rest =>
    obtain ⟨g6, rfl, hb1, d0, d1, hg6⟩ := hcut
    have y1 := X1.out.below hb1 rfl
    have y2 := X2.out.below hb1 rfl
    have y3 := X3.out.below hb1 rfl
    have y4 := X4.out.below hb1 rfl
    have hb2 := hb0.trans (hb1.mono hb0.size)
    clear a0 a1 a2 a3 a4 a5 b0 b1 b2 b3 b4 b5 X1 X2 X3 X4
    rw [Hz.out] at hg6
    have ho : ¬ g6 = w.heap.size + 1 + 1 + 1 := by omega
    have ho' : ¬ w.heap.size + 1 + 1 + 1 = g6 := by omega
    have Y1 := Lib.hid y1
    have Y2 := Lib.hid y2
    have Y3 := Lib.hid y3
    have Y4 := Lib.hid y4
    obtain ⟨⟨k0, k1, k2, k3, k4, k5⟩, j0, j1, j2, j3, j4, j5⟩ := y4
    clear y1 y2 y3
    go_upto_region 3 with fail
    go_cut [] (fun wx => Below w.heap.size w wx ∧ Six wx w.heap.size (.int .i64 c1) (.int .i64 i1) (.int .i64 (hiI v1)) (.int .u64 (loI v1)) (.int .i64 l1) (.int .i64 m1) ∧ Six wx (w.heap.size + 1) (.int .i64 c2) (.int .i64 i2) (.int .i64 (hiI v2)) (.int .u64 (loI v2)) (.int .i64 l2) (.int .i64 m2) ∧ Six wx (w.heap.size + 1 + 1) (.int .i64 0) (.int .i64 0) (.int .i64 0) (.int .u64 0) (.int .i64 0) (.int .i64 0) ∧ Six wx (w.heap.size + 1 + 1 + 1) (.int .i64 (c1 + c2)) (.int .i64 (i1 + i2)) (.int .i64 (hiI (v1 + v2))) (.int .u64 (loI (v1 + v2))) (.int .i64 0) (.int .i64 0))
    case first =>
      go_region
      go_wp2_with fail
      go_meet
      case rel =>
        exact ⟨(((hb2.setCell (p := ⟨w.heap.size + 1 + 1 + 1, 2, none⟩) (by show w.heap.size ≤ w.heap.size + 1 + 1 + 1; omega) _).setCell (p := ⟨w.heap.size + 1 + 1 + 1, 3, none⟩) (by show w.heap.size ≤ w.heap.size + 1 + 1 + 1; omega) _)).drew, (Y1.out.other (by omega) _).other (by omega) _, (Y2.out.other (by omega) _).other (by omega) _, (Y3.out.other (by omega) _).other (by omega) _, (Y4.out.s2 _).s3 _⟩
    case rest =>
      obtain ⟨hb3, z1, z2, z3, z4⟩ := hcut
      have Z1 := Lib.hid z1
      have Z2 := Lib.hid z2
      have Z3 := Lib.hid z3
      have Z4 := Lib.hid z4
      obtain ⟨⟨p0, p1, p2, p3, p4, p5⟩, _⟩ := z1
      obtain ⟨⟨q0, q1, q2, q3, q4, q5⟩, _⟩ := z2
      obtain ⟨⟨r0, r1, r2, r3, r4, r5⟩, f0, f1, f2, f3, f4, f5⟩ := z3
      obtain ⟨⟨k0, k1, k2, k3, k4, k5⟩, j0, j1, j2, j3, j4, j5⟩ := z4
      clear hb0 hb1 hb2 Hz Y1 Y2 Y3 d0 d1 hg6 ho ho'
      go_upto_block 0 with fail
      go_cut [] (fun wx => Below w.heap.size w wx ∧ Six wx (w.heap.size + 1 + 1) (.int .i64 0) (.int .i64 0) (.int .i64 0) (.int .u64 0) (.int .i64 0) (.int .i64 0) ∧ Six wx (w.heap.size + 1 + 1 + 1) (.int .i64 (c1 + c2)) (.int .i64 (i1 + i2)) (.int .i64 (hiI (v1 + v2))) (.int .u64 (loI (v1 + v2))) (.int .i64 (jL i1 i2 l1 l2)) (.int .i64 (jM i1 i2 m1 m2)))
      case first =>
        by_cases e1 : i1 = 0
        · have He : jL i1 i2 l1 l2 = l2 ∧ jM i1 i2 m1 m2 = m2 := by unfold jL jM; rw [if_pos e1, if_pos e1]; exact ⟨rfl, rfl⟩
          have e1b : (i1 == 0) = true := beq_iff_eq.2 e1
          have HE := Lib.hid He
          clear He e1
          go_wp2_with fail
          go_region
          go_wp2_with fail
          go_meet
          case rel =>
            have hz : w.heap.size ≤ w.heap.size + 1 + 1 + 1 := by omega
            refine ⟨(((hb3.setCell (p := ⟨w.heap.size + 1 + 1 + 1, 4, none⟩) hz _).setCell (p := ⟨w.heap.size + 1 + 1 + 1, 5, none⟩) hz _)).drew, (Z3.out.other (by omega) _).other (by omega) _, ?_⟩
            rw [HE.out.1, HE.out.2]
            exact (Z4.out.s4 _).s5 _
        · have e1b : (i1 == 0) = false := beq_eq_false_iff_ne.2 e1
          by_cases e2 : i2 = 0
          · have He : jL i1 i2 l1 l2 = l1 ∧ jM i1 i2 m1 m2 = m1 := by unfold jL jM; rw [if_neg e1, if_neg e1, if_pos e2, if_pos e2]; exact ⟨rfl, rfl⟩
            have e2b : (i2 == 0) = true := beq_iff_eq.2 e2
            have HE := Lib.hid He
            clear He e1 e2
            go_wp2_with fail
            go_region
            go_wp2_with fail
            go_meet
            case rel =>
              have hz : w.heap.size ≤ w.heap.size + 1 + 1 + 1 := by omega
              refine ⟨(((hb3.setCell (p := ⟨w.heap.size + 1 + 1 + 1, 4, none⟩) hz _).setCell (p := ⟨w.heap.size + 1 + 1 + 1, 5, none⟩) hz _)).drew, (Z3.out.other (by omega) _).other (by omega) _, ?_⟩
              rw [HE.out.1, HE.out.2]
              exact (Z4.out.s4 _).s5 _
          · have e2b : (i2 == 0) = false := beq_eq_false_iff_ne.2 e2
            by_cases e3 : l2 < l1
            · by_cases e4 : m1 < m2
              · have He : jL i1 i2 l1 l2 = l2 ∧ jM i1 i2 m1 m2 = m2 := by unfold jL jM; rw [if_neg e1, if_neg e1, if_neg e2, if_neg e2]; exact ⟨by omega, by omega⟩
                have HE := Lib.hid He
                clear He e1 e2
                go_wp2_with fail
                go_region
                go_wp2_with fail
                go_meet
                case rel =>
                  have hz : w.heap.size ≤ w.heap.size + 1 + 1 + 1 := by omega
                  refine ⟨(((hb3.setCell (p := ⟨w.heap.size + 1 + 1 + 1, 4, none⟩) hz _).setCell (p := ⟨w.heap.size + 1 + 1 + 1, 5, none⟩) hz _)).drew, (Z3.out.other (by omega) _).other (by omega) _, ?_⟩
                  rw [HE.out.1, HE.out.2]
                  exact (Z4.out.s4 _).s5 _
              · have He : jL i1 i2 l1 l2 = l2 ∧ jM i1 i2 m1 m2 = m1 := by unfold jL jM; rw [if_neg e1, if_neg e1, if_neg e2, if_neg e2]; exact ⟨by omega, by omega⟩
                have HE := Lib.hid He
                clear He e1 e2
                go_wp2_with fail
                go_region
                go_wp2_with fail
                go_meet
                case rel =>
                  have hz : w.heap.size ≤ w.heap.size + 1 + 1 + 1 := by omega
                  refine ⟨(((hb3.setCell (p := ⟨w.heap.size + 1 + 1 + 1, 4, none⟩) hz _).setCell (p := ⟨w.heap.size + 1 + 1 + 1, 5, none⟩) hz _)).drew, (Z3.out.other (by omega) _).other (by omega) _, ?_⟩
                  rw [HE.out.1, HE.out.2]
                  exact (Z4.out.s4 _).s5 _
            · by_cases e4 : m1 < m2
              · have He : jL i1 i2 l1 l2 = l1 ∧ jM i1 i2 m1 m2 = m2 := by unfold jL jM; rw [if_neg e1, if_neg e1, if_neg e2, if_neg e2]; exact ⟨by omega, by omega⟩
                have HE := Lib.hid He
                clear He e1 e2
                go_wp2_with fail
                go_region
                go_wp2_with fail
                go_meet
                case rel =>
                  have hz : w.heap.size ≤ w.heap.size + 1 + 1 + 1 := by omega
                  refine ⟨(((hb3.setCell (p := ⟨w.heap.size + 1 + 1 + 1, 4, none⟩) hz _).setCell (p := ⟨w.heap.size + 1 + 1 + 1, 5, none⟩) hz _)).drew, (Z3.out.other (by omega) _).other (by omega) _, ?_⟩
                  rw [HE.out.1, HE.out.2]
                  exact (Z4.out.s4 _).s5 _
              · have He : jL i1 i2 l1 l2 = l1 ∧ jM i1 i2 m1 m2 = m1 := by unfold jL jM; rw [if_neg e1, if_neg e1, if_neg e2, if_neg e2]; exact ⟨by omega, by omega⟩
                have HE := Lib.hid He
                clear He e1 e2
                go_wp2_with fail
                go_region
                go_wp2_with fail
                go_meet
                case rel =>
                  have hz : w.heap.size ≤ w.heap.size + 1 + 1 + 1 := by omega
                  refine ⟨(((hb3.setCell (p := ⟨w.heap.size + 1 + 1 + 1, 4, none⟩) hz _).setCell (p := ⟨w.heap.size + 1 + 1 + 1, 5, none⟩) hz _)).drew, (Z3.out.other (by omega) _).other (by omega) _, ?_⟩
                  rw [HE.out.1, HE.out.2]
                  exact (Z4.out.s4 _).s5 _
      case rest =>
        obtain ⟨hb4, z5, z6⟩ := hcut
        clear p0 p1 p2 p3 p4 p5 q0 q1 q2 q3 q4 q5 r0 r1 r2 r3 r4 r5 f0 f1 f2 f3 f4 f5 k0 k1 k2 k3 k4 k5 j0 j1 j2 j3 j4 j5 hb3
        obtain ⟨⟨r0, r1, r2, r3, r4, r5⟩, f0, f1, f2, f3, f4, f5⟩ := z5
        obtain ⟨⟨k0, k1, k2, k3, k4, k5⟩, j0, j1, j2, j3, j4, j5⟩ := z6
        go_wp2
        refine bodyPost_ret (v := .agg #[.int .i64 (c1 + c2), .int .i64 (i1 + i2), .int .i64 (hiI (v1 + v2)), .int .u64 (loI (v1 + v2)), .int .i64 (jL i1 i2 l1 l2), .int .i64 (jM i1 i2 m1 m2)]) ?_ rfl ⟨rfl, below_set6 hb4 (by omega)⟩
        simp [results, Try.results32, go_sem, *]
end Go.Proofs.Ytinaecmpigenoaa
