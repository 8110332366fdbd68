import Derived.Test.YtnfohlabmidliaaGac
/-
  Layer 13: the reference's Both.
-/
namespace Go.Proofs.Ytnfohlabmidliaa
open Go.RowKit
attribute [local go_sem ↓] Go.wp_at_zero Go.wp_at_succ

set_option maxRecDepth 20000 in
set_option maxHeartbeats 6000000 in
theorem both_any (c1 i1 v1 l1 m1 c2 i2 v2 l2 m2 : Int) (w : World) (hc1 : 0 ≤ c1 ∧ c1 ≤ 1073741824) (hc2 : 0 ≤ c2 ∧ c2 ≤ 1073741824) (hi1 : 0 ≤ i1 ∧ i1 ≤ 1073741824) (hi2 : 0 ≤ i2 ∧ i2 ≤ 1073741824) (hn : i2 = 0 → l2 = 0 ∧ m2 = 0) :
    Calls Try.prog 42 #[redV c1 i1 v1 l1 m1, redV c2 i2 v2 l2 m2] w fun e w' => e = .returned (redV (c1 + c2) (i1 + i2) (v1 + v2) (jL i1 i2 l1 l2) (jM i1 i2 m1 m2)) ∧ Below w.heap.size w w' := by
  obtain ⟨hc10, hc11⟩ := hc1
  obtain ⟨hc20, hc21⟩ := hc2
  obtain ⟨hi10, hi11⟩ := hi1
  obtain ⟨hi20, hi21⟩ := hi2
  obtain ⟨W0, hW0⟩ : ∃ W0, ((w.alloc (.cells #[.int .i64 c1, .int .i64 i1, .int .i64 (hiI v1), .int .u64 (loI v1), .int .i64 l1, .int .i64 m1] 37)).alloc (.cells #[.int .i64 c2, .int .i64 i2, .int .i64 (hiI v2), .int .u64 (loI v2), .int .i64 l2, .int .i64 m2] 37)).alloc (.cells #[.int .i64 0, .int .i64 0, .int .i64 0, .int .u64 0, .int .i64 0, .int .i64 0] 37) = W0 := ⟨_, rfl⟩
  have hb0 : Below w.heap.size w W0 := by rw [← hW0]; exact (((Below.refl _ _).alloc (Nat.le_refl _) _).alloc (by simp) _).alloc (by simp; omega) _
  have hz : W0.heap.size = w.heap.size + 3 := by rw [← hW0]; simp
  have x1 : Six W0 w.heap.size (.int .i64 c1) (.int .i64 i1) (.int .i64 (hiI v1)) (.int .u64 (loI v1)) (.int .i64 l1) (.int .i64 m1) := by
    rw [← hW0]
    exact ((Six.new w _ _ _ _ _ _ _).alloc _).alloc _
  have x2 : Six W0 (w.heap.size + 1) (.int .i64 c2) (.int .i64 i2) (.int .i64 (hiI v2)) (.int .u64 (loI v2)) (.int .i64 l2) (.int .i64 m2) := by
    rw [← hW0]
    have := ((Six.new (w.alloc (.cells #[.int .i64 c1, .int .i64 i1, .int .i64 (hiI v1), .int .u64 (loI v1), .int .i64 l1, .int .i64 m1] 37)) (.int .i64 c2) (.int .i64 i2) (.int .i64 (hiI v2)) (.int .u64 (loI v2)) (.int .i64 l2) (.int .i64 m2) 37).alloc (.cells #[.int .i64 0, .int .i64 0, .int .i64 0, .int .u64 0, .int .i64 0, .int .i64 0] 37))
    simpa using this
  have x3 : Six W0 (w.heap.size + 1 + 1) (.int .i64 0) (.int .i64 0) (.int .i64 0) (.int .u64 0) (.int .i64 0) (.int .i64 0) := by
    rw [← hW0]
    have := (Six.new ((w.alloc (.cells #[.int .i64 c1, .int .i64 i1, .int .i64 (hiI v1), .int .u64 (loI v1), .int .i64 l1, .int .i64 m1] 37)).alloc (.cells #[.int .i64 c2, .int .i64 i2, .int .i64 (hiI v2), .int .u64 (loI v2), .int .i64 l2, .int .i64 m2] 37)) (.int .i64 0) (.int .i64 0) (.int .i64 0) (.int .u64 0) (.int .i64 0) (.int .i64 0) 37)
    simpa using this
  have a0 := fun W h => (six_rule x1 W h).1.1
  have a1 := fun W h => (six_rule x1 W h).1.2.1
  have a2 := fun W h => (six_rule x1 W h).1.2.2.1
  have a3 := fun W h => (six_rule x1 W h).1.2.2.2.1
  have a4 := fun W h => (six_rule x1 W h).1.2.2.2.2.1
  have a5 := fun W h => (six_rule x1 W h).1.2.2.2.2.2
  have b0 := fun W h => (six_rule x2 W h).1.1
  have b1 := fun W h => (six_rule x2 W h).1.2.1
  have b2 := fun W h => (six_rule x2 W h).1.2.2.1
  have b3 := fun W h => (six_rule x2 W h).1.2.2.2.1
  have b4 := fun W h => (six_rule x2 W h).1.2.2.2.2.1
  have b5 := fun W h => (six_rule x2 W h).1.2.2.2.2.2
  have HW0 := Lib.hid hW0
  have X1 := Lib.hid x1
  have X2 := Lib.hid x2
  have X3 := Lib.hid x3
  have Hz := Lib.hid hz
  clear x1 x2 x3 hz hW0
  unfold redV
  go_enter Try.func42, Try.ntmps42
  go_upto_region 1 with fail
  rw [HW0.out]
  clear HW0
  go_cut [5] (fun s3 wx => ∃ g : Nat, s3 = .pointer (some ⟨g, 0, none⟩) ∧ Below W0.heap.size W0 wx ∧ wx.cell? ⟨g, 0, none⟩ = some (.int .i64 (hiI (v1 + v2))) ∧ wx.cell? ⟨g, 1, none⟩ = some (.int .u64 (loI (v1 + v2))) ∧ W0.heap.size ≤ g)
  case first =>
    go_region_held3 (fun w' => Below W0.heap.size W0 w') (first | assumption | exact (Below.refl _ _).drew | exact ((Below.refl _ _).alloc (Nat.le_refl _) _).drew | (refine mS_alloc ?_; assumption) | (refine mS_call ?_ ?_ ?_; assumption; assumption; rfl) | (refine S_set2 ?_ ?_; assumption; first | exact Nat.le_refl _ | exact Below.size (by assumption))) (first
      | (go_at_call 57; with_reducible refine (whole_any c1 i1 v1 l1 m1 _).mono ?_; rintro e wA ⟨rfl, hbA⟩; have hSA := mS_call hbA (by assumption) rfl; (first | (have kk := keep_two hbA rfl kk; obtain ⟨k0, k1, f0, f1⟩ := id kk) | (have kk := new_two hbA rfl; obtain ⟨k0, k1, f0, f1⟩ := id kk) | (have kk := new_two (below_undrew hbA) rfl; obtain ⟨k0, k1, f0, f1⟩ := id kk) | skip))
      | (go_at_call 57; with_reducible refine (whole_any c2 i2 v2 l2 m2 _).mono ?_; rintro e wB ⟨rfl, hbB⟩; have hSB := mS_call hbB (by assumption) rfl; (first | (have kk := keep_two hbB rfl kk; obtain ⟨k0, k1, f0, f1⟩ := id kk) | (have kk := new_two hbB rfl; obtain ⟨k0, k1, f0, f1⟩ := id kk) | (have kk := new_two (below_undrew hbB) rfl; obtain ⟨k0, k1, f0, f1⟩ := id kk) | skip))
      | (go_at_call 56; with_reducible refine (refAdd_any v1 v2 _).mono ?_; rintro e wC ⟨rfl, hbC⟩; have hSC := mS_call hbC (by assumption) rfl; (first | (have kk := keep_two hbC rfl kk; obtain ⟨k0, k1, f0, f1⟩ := id kk) | (have kk := new_two hbC rfl; obtain ⟨k0, k1, f0, f1⟩ := id kk) | (have kk := new_two (below_undrew hbC) rfl; obtain ⟨k0, k1, f0, f1⟩ := id kk) | skip)))
    all_goals
      go_wp2_with fail
      go_meet
      case rel => exact ⟨_, rfl, by assumption, by go_simp, by go_simp, by first | exact Nat.le_refl _ | exact Below.size (by assumption)⟩
  case rest =>
    obtain ⟨g6, rfl, hb1, d0, d1, hg6⟩ := hcut
    have y1 := X1.out.below hb1 rfl
    have y2 := X2.out.below hb1 rfl
    have y3 := X3.out.below hb1 rfl
    have hb2 := hb0.trans (hb1.mono hb0.size)
    clear X1 X2 X3
    rw [Hz.out] at hg6
    obtain ⟨⟨p0, p1, p2, p3, p4, p5⟩, _⟩ := id y1
    obtain ⟨⟨q0, q1, q2, q3, q4, q5⟩, _⟩ := id y2
    have Y1 := Lib.hid y1
    have Y2 := Lib.hid y2
    have Y3 := Lib.hid y3
    have zc : w.heap.size + 1 + 1 < wc.heap.size := World.block_lt_of_cell? wc _ y3.1.1
    clear y1 y2 y3 a0 a1 a2 a3 a4 a5 b0 b1 b2 b3 b4 b5
    go_upto_region 3 with fail
    have Z1 := Y1.out.alloc (.cells #[.int .i64 (c1 + c2), .int .i64 (i1 + i2), .int .i64 (hiI (v1 + v2)), .int .u64 (loI (v1 + v2)), .int .i64 0, .int .i64 0] 37)
    have Z2 := Y2.out.alloc (.cells #[.int .i64 (c1 + c2), .int .i64 (i1 + i2), .int .i64 (hiI (v1 + v2)), .int .u64 (loI (v1 + v2)), .int .i64 0, .int .i64 0] 37)
    have Z3 := Y3.out.alloc (.cells #[.int .i64 (c1 + c2), .int .i64 (i1 + i2), .int .i64 (hiI (v1 + v2)), .int .u64 (loI (v1 + v2)), .int .i64 0, .int .i64 0] 37)
    have Z4 := Six.new wc (.int .i64 (c1 + c2)) (.int .i64 (i1 + i2)) (.int .i64 (hiI (v1 + v2))) (.int .u64 (loI (v1 + v2))) (.int .i64 0) (.int .i64 0) 37
    have hbW := hb2.alloc (by omega) (.cells #[.int .i64 (c1 + c2), .int .i64 (i1 + i2), .int .i64 (hiI (v1 + v2)), .int .u64 (loI (v1 + v2)), .int .i64 0, .int .i64 0] 37)
    clear p0 p1 p2 p3 p4 p5 q0 q1 q2 q3 q4 q5 Y1 Y2 Y3 d0 d1 hb0 hb1 hb2 Hz hg6
    generalize wc.alloc (.cells #[.int .i64 (c1 + c2), .int .i64 (i1 + i2), .int .i64 (hiI (v1 + v2)), .int .u64 (loI (v1 + v2)), .int .i64 0, .int .i64 0] 37) = W1 at *
    generalize wc.heap.size = G at *
    obtain ⟨⟨p0, p1, p2, p3, p4, p5⟩, _⟩ := Z1
    obtain ⟨⟨q0, q1, q2, q3, q4, q5⟩, _⟩ := Z2
    obtain ⟨⟨r0, r1, r2, r3, r4, r5⟩, f0, f1, f2, f3, f4, f5⟩ := Z3
    have ZZ := Lib.hid Z4
    obtain ⟨⟨k0, k1, k2, k3, k4, k5⟩, j0, j1, j2, j3, j4, j5⟩ := Z4
    have n1 : ¬ G = w.heap.size := by omega
    have n2 : ¬ G = w.heap.size + 1 := by omega
    have n3 : ¬ G = w.heap.size + 1 + 1 := by omega
    have n4 : ¬ w.heap.size = G := by omega
    have n5 : ¬ w.heap.size + 1 = G := by omega
    have n6 : ¬ w.heap.size + 1 + 1 = G := by omega
    by_cases e1 : i1 = 0
    · have e1b : (i1 == 0) = true := beq_iff_eq.2 e1
      have e1l : i1 ≤ 0 := by omega
      by_cases e2 : i2 = 0
      · have HE := Lib.hid (show jL i1 i2 l1 l2 = 0 ∧ jM i1 i2 m1 m2 = 0 by unfold jL jM; rw [if_pos e1, if_pos e1]; exact hn e2)
        have e2l : i2 ≤ 0 := by omega
        clear e1 e2 hn
        go_wp2
        refine bodyPost_ret (v := .agg #[.int .i64 (c1 + c2), .int .i64 (i1 + i2), .int .i64 (hiI (v1 + v2)), .int .u64 (loI (v1 + v2)), .int .i64 0, .int .i64 0]) ?_ rfl ⟨by rw [HE.out.1, HE.out.2], ?_⟩
        · simp [results, Try.results42, go_sem, *]
        · refine below_set6 ?_ (by omega)
          repeat (refine Below.setCell ?_ (by show w.heap.size ≤ G; omega) _)
          exact hbW
      · have HE := Lib.hid (show jL i1 i2 l1 l2 = l2 ∧ jM i1 i2 m1 m2 = m2 by unfold jL jM; rw [if_pos e1, if_pos e1]; exact ⟨rfl, rfl⟩)
        have e2l : 0 < i2 := by omega
        clear e1 e2 hn
        go_wp2
        refine bodyPost_ret (v := .agg #[.int .i64 (c1 + c2), .int .i64 (i1 + i2), .int .i64 (hiI (v1 + v2)), .int .u64 (loI (v1 + v2)), .int .i64 l2, .int .i64 m2]) ?_ rfl ⟨by rw [HE.out.1, HE.out.2], ?_⟩
        · simp [results, Try.results42, go_sem, *]
        · refine below_set6 ?_ (by omega)
          repeat (refine Below.setCell ?_ (by show w.heap.size ≤ G; omega) _)
          exact hbW
    · have e1b : (i1 == 0) = false := beq_eq_false_iff_ne.2 e1
      have e1l : 0 < i1 := by omega
      by_cases e2 : i2 = 0
      · have HE := Lib.hid (show jL i1 i2 l1 l2 = l1 ∧ jM i1 i2 m1 m2 = m1 by unfold jL jM; rw [if_neg e1, if_neg e1, if_pos e2, if_pos e2]; exact ⟨rfl, rfl⟩)
        have e2l : i2 ≤ 0 := by omega
        clear e1 e2 hn
        go_wp2
        refine bodyPost_ret (v := .agg #[.int .i64 (c1 + c2), .int .i64 (i1 + i2), .int .i64 (hiI (v1 + v2)), .int .u64 (loI (v1 + v2)), .int .i64 l1, .int .i64 m1]) ?_ rfl ⟨by rw [HE.out.1, HE.out.2], ?_⟩
        · simp [results, Try.results42, go_sem, *]
        · refine below_set6 ?_ (by omega)
          repeat (refine Below.setCell ?_ (by show w.heap.size ≤ G; omega) _)
          exact hbW
      · have e2l : 0 < i2 := by omega
        by_cases e3 : l2 < l1
        · have d3 : decide (l2 < l1) = true := decide_eq_true e3
          by_cases e4 : m1 < m2
          · have d4 : decide (m1 < m2) = true := decide_eq_true e4
            obtain ⟨⟨_, _, _, _, x4, x5⟩, _⟩ := (((ZZ.out.s4 (.int .i64 l1)).s5 (.int .i64 m1)).s4 (.int .i64 l2)).s5 (.int .i64 m2)
            have HE := Lib.hid (show jL i1 i2 l1 l2 = l2 ∧ jM i1 i2 m1 m2 = m2 by unfold jL jM; rw [if_neg e1, if_neg e1, if_neg e2, if_neg e2]; exact ⟨by omega, by omega⟩)
            clear e1 e2 hn
            go_wp2
            refine bodyPost_ret (v := .agg #[.int .i64 (c1 + c2), .int .i64 (i1 + i2), .int .i64 (hiI (v1 + v2)), .int .u64 (loI (v1 + v2)), .int .i64 l2, .int .i64 m2]) ?_ rfl ⟨by rw [HE.out.1, HE.out.2], ?_⟩
            · simp [results, Try.results42, go_sem, *]
            · refine below_set6 ?_ (by omega)
              repeat (refine Below.setCell ?_ (by show w.heap.size ≤ G; omega) _)
              exact hbW
          · have d4 : decide (m1 < m2) = false := decide_eq_false e4
            have HE := Lib.hid (show jL i1 i2 l1 l2 = l2 ∧ jM i1 i2 m1 m2 = m1 by unfold jL jM; rw [if_neg e1, if_neg e1, if_neg e2, if_neg e2]; exact ⟨by omega, by omega⟩)
            clear e1 e2 hn
            go_wp2
            refine bodyPost_ret (v := .agg #[.int .i64 (c1 + c2), .int .i64 (i1 + i2), .int .i64 (hiI (v1 + v2)), .int .u64 (loI (v1 + v2)), .int .i64 l2, .int .i64 m1]) ?_ rfl ⟨by rw [HE.out.1, HE.out.2], ?_⟩
            · simp [results, Try.results42, go_sem, *]
            · refine below_set6 ?_ (by omega)
              repeat (refine Below.setCell ?_ (by show w.heap.size ≤ G; omega) _)
              exact hbW
        · have d3 : decide (l2 < l1) = false := decide_eq_false e3
          by_cases e4 : m1 < m2
          · have d4 : decide (m1 < m2) = true := decide_eq_true e4
            obtain ⟨⟨_, _, _, _, x4, x5⟩, _⟩ := ((ZZ.out.s4 (.int .i64 l1)).s5 (.int .i64 m1)).s5 (.int .i64 m2)
            have HE := Lib.hid (show jL i1 i2 l1 l2 = l1 ∧ jM i1 i2 m1 m2 = m2 by unfold jL jM; rw [if_neg e1, if_neg e1, if_neg e2, if_neg e2]; exact ⟨by omega, by omega⟩)
            clear e1 e2 hn
            go_wp2
            refine bodyPost_ret (v := .agg #[.int .i64 (c1 + c2), .int .i64 (i1 + i2), .int .i64 (hiI (v1 + v2)), .int .u64 (loI (v1 + v2)), .int .i64 l1, .int .i64 m2]) ?_ rfl ⟨by rw [HE.out.1, HE.out.2], ?_⟩
            · simp [results, Try.results42, go_sem, *]
            · refine below_set6 ?_ (by omega)
              repeat (refine Below.setCell ?_ (by show w.heap.size ≤ G; omega) _)
              exact hbW
          · have d4 : decide (m1 < m2) = false := decide_eq_false e4
            have HE := Lib.hid (show jL i1 i2 l1 l2 = l1 ∧ jM i1 i2 m1 m2 = m1 by unfold jL jM; rw [if_neg e1, if_neg e1, if_neg e2, if_neg e2]; exact ⟨by omega, by omega⟩)
            clear e1 e2 hn
            go_wp2
            refine bodyPost_ret (v := .agg #[.int .i64 (c1 + c2), .int .i64 (i1 + i2), .int .i64 (hiI (v1 + v2)), .int .u64 (loI (v1 + v2)), .int .i64 l1, .int .i64 m1]) ?_ rfl ⟨by rw [HE.out.1, HE.out.2], ?_⟩
            · simp [results, Try.results42, go_sem, *]
            · refine below_set6 ?_ (by omega)
              repeat (refine Below.setCell ?_ (by show w.heap.size ≤ G; omega) _)
              exact hbW
end Go.Proofs.Ytnfohlabmidliaa
