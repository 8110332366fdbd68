/-
  Layer 13: the law MonoidChecks, walked.
-/
import Derived.Test.YtinaecmpigenoaaMonN
import Derived.Test.YtinaecmpigenoaaMonC
namespace Go.Proofs.Ytinaecmpigenoaa
open Go.RowKit
attribute [local go_sem ↓] Go.wp_at_zero Go.wp_at_succ

theorem check_agg (c i v le mo : Int) (w : World) (hv : R128 v) (hle : R64 le) (hmo : R64 mo) :
    Calls Try.prog 9 #[.agg #[.int .i64 c, .int .i64 i, .int .i64 (hiI v), .int .u64 (loI v), .int .i64 le, .int .i64 mo]] w fun e w' => e = .returned (.int .i64 (redE c i v le mo)) ∧ Below w.heap.size w w' := check_any c i v le mo w hv hle hmo
theorem check_yes (c i v le mo : Int) (w : World) (hv : R128 v) (hle : R64 le) (hmo : R64 mo) (h : validB c i v le mo = true) :
    Calls Try.prog 9 #[.agg #[.int .i64 c, .int .i64 i, .int .i64 (hiI v), .int .u64 (loI v), .int .i64 le, .int .i64 mo]] w fun e w' => e = .returned (.int .i64 0) ∧ Below w.heap.size w w' := by
  have := check_agg c i v le mo w hv hle hmo
  unfold redE at this
  rw [if_pos h] at this
  exact this
theorem check_no (c i v le mo : Int) (w : World) (hv : R128 v) (hle : R64 le) (hmo : R64 mo) (h : validB c i v le mo = false) :
    Calls Try.prog 9 #[.agg #[.int .i64 c, .int .i64 i, .int .i64 (hiI v), .int .u64 (loI v), .int .i64 le, .int .i64 mo]] w fun e w' => e = .returned (.int .i64 230) ∧ Below w.heap.size w w' := by
  have := check_agg c i v le mo w hv hle hmo
  unfold redE at this
  rw [if_neg (by rw [h]; simp)] at this
  exact this
theorem right_yes (c i v le mo : Int) (w : World) (hv : R128 v) (hle : R64 le) (hmo : R64 mo) (h : validB c i v le mo = true) :
    Calls Try.prog 10 #[.agg #[.int .i64 c, .int .i64 i, .int .i64 (hiI v), .int .u64 (loI v), .int .i64 le, .int .i64 mo]] w fun e w' => e = .returned (.bool true) ∧ Below w.heap.size w w' := by
  rw [← h]; exact right_any c i v le mo w hv hle hmo
theorem right_no (c i v le mo : Int) (w : World) (hv : R128 v) (hle : R64 le) (hmo : R64 mo) (h : validB c i v le mo = false) :
    Calls Try.prog 10 #[.agg #[.int .i64 c, .int .i64 i, .int .i64 (hiI v), .int .u64 (loI v), .int .i64 le, .int .i64 mo]] w fun e w' => e = .returned (.bool false) ∧ Below w.heap.size w w' := by
  rw [← h]; exact right_any c i v le mo w hv hle hmo
/-- One's number of numbers and sum. -/
def o1 (b : Bool) : Int := if b then 1 else 0
def oN (b : Bool) (n : Int) : Int := if b then n else 0
theorem one_row (b : Bool) (n : Int) : oneV b n = .agg #[.int .i64 1, .int .i64 (o1 b), .int .i64 (hiI (oN b n)), .int .u64 (loI (oN b n)), .int .i64 (oN b n), .int .i64 (oN b n)] := by
  cases b <;> rfl
theorem one_valid (b : Bool) (n : Int) : validB 1 (o1 b) (oN b n) (oN b n) (oN b n) = true := by
  cases b
  · rfl
  · simp [validB, o1, oN]
theorem one_agg (x : ItemT) (w : World) (hn : R64 x.n) :
    Calls Try.prog 11 #[.agg #[.slice x.A1 x.n1 x.c1, .slice x.A2 x.n2 x.c2, .bool x.b, .int .i64 x.n]] w fun e w' => e = .returned (.agg #[.int .i64 1, .int .i64 (o1 x.b), .int .i64 (hiI (oN x.b x.n)), .int .u64 (loI (oN x.b x.n)), .int .i64 (oN x.b x.n), .int .i64 (oN x.b x.n)]) ∧ Below w.heap.size w w' := by
  rw [← one_row]; exact one_any x.A1 x.n1 x.c1 x.A2 x.n2 x.c2 x.b x.n w hn
theorem refOne_agg (x : ItemT) (w : World) (hn : R64 x.n) :
    Calls Try.prog 12 #[.agg #[.slice x.A1 x.n1 x.c1, .slice x.A2 x.n2 x.c2, .bool x.b, .int .i64 x.n]] w fun e w' => e = .returned (.agg #[.int .i64 1, .int .i64 (o1 x.b), .int .i64 (hiI (oN x.b x.n)), .int .u64 (loI (oN x.b x.n)), .int .i64 (oN x.b x.n), .int .i64 (oN x.b x.n)]) ∧ Below w.heap.size w w' := by
  rw [← one_row]; exact refOne_any x.A1 x.n1 x.c1 x.A2 x.n2 x.c2 x.b x.n w hn
theorem oN_r64 (b : Bool) (n : Int) (h : R64 n) : R64 (oN b n) ∧ R128 (oN b n) := by
  unfold R64 at h
  unfold oN R64 R128
  cases b <;> simp <;> omega

set_option maxRecDepth 100000 in
set_option maxHeartbeats 4000000 in
theorem checks_yes (hwk0 : ∀ W : World, Calls Try.prog 8 #[] W fun e w' => e = .returned (.bool true) ∧ Below W.heap.size W w') (w : World) (c i v le mo : Int) (hv : R128 v) (hle : R64 le) (hmo : R64 mo) (hval : validB c i v le mo = true) (x : ItemT) (hx : R64 x.n) :
    Calls Try.prog 3 #[.agg #[.int .i64 c, .int .i64 i, .int .i64 (hiI v), .int .u64 (loI v), .int .i64 le, .int .i64 mo], .agg #[.slice x.A1 x.n1 x.c1, .slice x.A2 x.n2 x.c2, .bool x.b, .int .i64 x.n]] w fun e w' => e = .returned (.bool true) ∧ Below w.heap.size w w' := by
  have hwk := Lib.hid hwk0
  obtain ⟨hox, hox2⟩ := oN_r64 x.b x.n hx
  have hone := Lib.hid (one_valid x.b x.n)
  have Hval := Lib.hid hval
  clear hval hwk0
  go_enter Try.func3, Try.ntmps3
  go_wp2_with fail
  refine (hwk.out _).mono ?_
  rintro e w1 ⟨rfl, hb1⟩
  go_upto_region 3 with fail
  have s1 : Six w1 w.heap.size _ _ _ _ _ _ := ((Six.new w (.int .i64 c) (.int .i64 i) (.int .i64 (hiI v)) (.int .u64 (loI v)) (.int .i64 le) (.int .i64 mo) 24).alloc _).below hb1 rfl
  have i0 : w1.cell? ⟨w.heap.size + 1, 0, none⟩ = some (.slice x.A1 x.n1 x.c1) := by
    have := new_later hb1 0 rfl
    simpa using this
  have i1 : w1.cell? ⟨w.heap.size + 1, 1, none⟩ = some (.slice x.A2 x.n2 x.c2) := by
    have := new_later hb1 1 rfl
    simpa using this
  have i2 : w1.cell? ⟨w.heap.size + 1, 2, none⟩ = some (.bool x.b) := by
    have := new_later hb1 2 rfl
    simpa using this
  have i3 : w1.cell? ⟨w.heap.size + 1, 3, none⟩ = some (.int .i64 x.n) := by
    have := new_later hb1 3 rfl
    simpa using this
  have hb1 : Below w.heap.size w w1 := (((Below.refl _ _).alloc (Nat.le_refl _) _).alloc (by simp) _).trans (hb1.mono (by simp; omega))
  obtain ⟨⟨r0, r1, r2, r3, r4, r5⟩, -⟩ := s1
  have c0 : ∀ W, Below w1.heap.size w1 W → W.cell? ⟨w.heap.size, 0, none⟩ = some (.int .i64 c) := fun W h => kept_later h r0
  have c1 : ∀ W, Below w1.heap.size w1 W → W.cell? ⟨w.heap.size, 1, none⟩ = some (.int .i64 i) := fun W h => kept_later h r1
  have c2 : ∀ W, Below w1.heap.size w1 W → W.cell? ⟨w.heap.size, 2, none⟩ = some (.int .i64 (hiI v)) := fun W h => kept_later h r2
  have c3 : ∀ W, Below w1.heap.size w1 W → W.cell? ⟨w.heap.size, 3, none⟩ = some (.int .u64 (loI v)) := fun W h => kept_later h r3
  have c4 : ∀ W, Below w1.heap.size w1 W → W.cell? ⟨w.heap.size, 4, none⟩ = some (.int .i64 le) := fun W h => kept_later h r4
  have c5 : ∀ W, Below w1.heap.size w1 W → W.cell? ⟨w.heap.size, 5, none⟩ = some (.int .i64 mo) := fun W h => kept_later h r5
  have d0 : ∀ W, Below w1.heap.size w1 W → W.cell? ⟨w.heap.size + 1, 0, none⟩ = some (.slice x.A1 x.n1 x.c1) := fun W h => kept_later h i0
  have d1 : ∀ W, Below w1.heap.size w1 W → W.cell? ⟨w.heap.size + 1, 1, none⟩ = some (.slice x.A2 x.n2 x.c2) := fun W h => kept_later h i1
  have d2 : ∀ W, Below w1.heap.size w1 W → W.cell? ⟨w.heap.size + 1, 2, none⟩ = some (.bool x.b) := fun W h => kept_later h i2
  have d3 : ∀ W, Below w1.heap.size w1 W → W.cell? ⟨w.heap.size + 1, 3, none⟩ = some (.int .i64 x.n) := fun W h => kept_later h i3
  clear r0 r1 r2 r3 r4 r5 i0 i1 i2 i3
  have hS0 : Below w1.heap.size w1 w1 := Below.refl _ _
  have hS1 : Below w1.heap.size w1 w1.drew := (Below.refl _ _).drew
  go_region_with (first
    | (go_at_call 9; with_reducible refine (check_yes c i v le mo _ hv hle hmo Hval.out).mono ?_; rintro e wA ⟨rfl, hbA⟩; have hSA := S_call hbA (by assumption) rfl)
    | (go_at_call 10; with_reducible refine (right_yes c i v le mo _ hv hle hmo Hval.out).mono ?_; rintro e wB ⟨rfl, hbB⟩; have hSB := S_call hbB (by assumption) rfl)
    | (go_at_call 11; with_reducible refine (one_agg x _ hx).mono ?_; rintro e wC ⟨rfl, hbC⟩; have hSC := S_call hbC (by assumption) rfl)
    | (go_at_call 12; with_reducible refine (refOne_agg x _ hx).mono ?_; rintro e wD ⟨rfl, hbD⟩; have hSD := S_call hbD (by assumption) rfl)
    | (go_at_call 9; with_reducible refine (check_yes _ _ _ _ _ _ hox2 hox hox hone.out).mono ?_; rintro e wE ⟨rfl, hbE⟩; have hSE := S_call hbE (by assumption) rfl))
  all_goals
    go_wp2
    go_ret
    exact ⟨rfl, hb1.trans (Below.mono (B := w1.heap.size) (by assumption) hb1.size)⟩
set_option maxRecDepth 100000 in
set_option maxHeartbeats 4000000 in
theorem checks_no (hwk0 : ∀ W : World, Calls Try.prog 8 #[] W fun e w' => e = .returned (.bool true) ∧ Below W.heap.size W w') (w : World) (c i v le mo : Int) (hv : R128 v) (hle : R64 le) (hmo : R64 mo) (hval : validB c i v le mo = false) (x : ItemT) (hx : R64 x.n) :
    Calls Try.prog 3 #[.agg #[.int .i64 c, .int .i64 i, .int .i64 (hiI v), .int .u64 (loI v), .int .i64 le, .int .i64 mo], .agg #[.slice x.A1 x.n1 x.c1, .slice x.A2 x.n2 x.c2, .bool x.b, .int .i64 x.n]] w fun e w' => e = .returned (.bool true) ∧ Below w.heap.size w w' := by
  have hwk := Lib.hid hwk0
  obtain ⟨hox, hox2⟩ := oN_r64 x.b x.n hx
  have hone := Lib.hid (one_valid x.b x.n)
  have Hval := Lib.hid hval
  clear hval hwk0
  go_enter Try.func3, Try.ntmps3
  go_wp2_with fail
  refine (hwk.out _).mono ?_
  rintro e w1 ⟨rfl, hb1⟩
  go_upto_region 3 with fail
  have s1 : Six w1 w.heap.size _ _ _ _ _ _ := ((Six.new w (.int .i64 c) (.int .i64 i) (.int .i64 (hiI v)) (.int .u64 (loI v)) (.int .i64 le) (.int .i64 mo) 24).alloc _).below hb1 rfl
  have i0 : w1.cell? ⟨w.heap.size + 1, 0, none⟩ = some (.slice x.A1 x.n1 x.c1) := by
    have := new_later hb1 0 rfl
    simpa using this
  have i1 : w1.cell? ⟨w.heap.size + 1, 1, none⟩ = some (.slice x.A2 x.n2 x.c2) := by
    have := new_later hb1 1 rfl
    simpa using this
  have i2 : w1.cell? ⟨w.heap.size + 1, 2, none⟩ = some (.bool x.b) := by
    have := new_later hb1 2 rfl
    simpa using this
  have i3 : w1.cell? ⟨w.heap.size + 1, 3, none⟩ = some (.int .i64 x.n) := by
    have := new_later hb1 3 rfl
    simpa using this
  have hb1 : Below w.heap.size w w1 := (((Below.refl _ _).alloc (Nat.le_refl _) _).alloc (by simp) _).trans (hb1.mono (by simp; omega))
  obtain ⟨⟨r0, r1, r2, r3, r4, r5⟩, -⟩ := s1
  have c0 : ∀ W, Below w1.heap.size w1 W → W.cell? ⟨w.heap.size, 0, none⟩ = some (.int .i64 c) := fun W h => kept_later h r0
  have c1 : ∀ W, Below w1.heap.size w1 W → W.cell? ⟨w.heap.size, 1, none⟩ = some (.int .i64 i) := fun W h => kept_later h r1
  have c2 : ∀ W, Below w1.heap.size w1 W → W.cell? ⟨w.heap.size, 2, none⟩ = some (.int .i64 (hiI v)) := fun W h => kept_later h r2
  have c3 : ∀ W, Below w1.heap.size w1 W → W.cell? ⟨w.heap.size, 3, none⟩ = some (.int .u64 (loI v)) := fun W h => kept_later h r3
  have c4 : ∀ W, Below w1.heap.size w1 W → W.cell? ⟨w.heap.size, 4, none⟩ = some (.int .i64 le) := fun W h => kept_later h r4
  have c5 : ∀ W, Below w1.heap.size w1 W → W.cell? ⟨w.heap.size, 5, none⟩ = some (.int .i64 mo) := fun W h => kept_later h r5
  have d0 : ∀ W, Below w1.heap.size w1 W → W.cell? ⟨w.heap.size + 1, 0, none⟩ = some (.slice x.A1 x.n1 x.c1) := fun W h => kept_later h i0
  have d1 : ∀ W, Below w1.heap.size w1 W → W.cell? ⟨w.heap.size + 1, 1, none⟩ = some (.slice x.A2 x.n2 x.c2) := fun W h => kept_later h i1
  have d2 : ∀ W, Below w1.heap.size w1 W → W.cell? ⟨w.heap.size + 1, 2, none⟩ = some (.bool x.b) := fun W h => kept_later h i2
  have d3 : ∀ W, Below w1.heap.size w1 W → W.cell? ⟨w.heap.size + 1, 3, none⟩ = some (.int .i64 x.n) := fun W h => kept_later h i3
  clear r0 r1 r2 r3 r4 r5 i0 i1 i2 i3
  go_region_held3 (fun w' => Below w1.heap.size w1 w') (first | assumption | exact (Below.refl _ _).drew | (refine S_call ?_ ?_ ?_; assumption; assumption; rfl)) (first
    | (go_at_call 9; with_reducible refine (check_no c i v le mo _ hv hle hmo Hval.out).mono ?_; rintro e wA ⟨rfl, hbA⟩; have hSA := S_call hbA (by assumption) rfl)
    | (go_at_call 10; with_reducible refine (right_no c i v le mo _ hv hle hmo Hval.out).mono ?_; rintro e wB ⟨rfl, hbB⟩; have hSB := S_call hbB (by assumption) rfl)
    | (go_at_call 11; with_reducible refine (one_agg x _ hx).mono ?_; rintro e wC ⟨rfl, hbC⟩; have hSC := S_call hbC (by assumption) rfl)
    | (go_at_call 12; with_reducible refine (refOne_agg x _ hx).mono ?_; rintro e wD ⟨rfl, hbD⟩; have hSD := S_call hbD (by assumption) rfl)
    | (go_at_call 9; with_reducible refine (check_yes _ _ _ _ _ _ hox2 hox hox hone.out).mono ?_; rintro e wE ⟨rfl, hbE⟩; have hSE := S_call hbE (by assumption) rfl))
  all_goals
    go_wp2
    go_ret
    exact ⟨rfl, hb1.trans (Below.mono (B := w1.heap.size) (by assumption) hb1.size)⟩
theorem checks_walk (hwk : ∀ W : World, Calls Try.prog 8 #[] W fun e w' => e = .returned (.bool true) ∧ Below W.heap.size W w') (w : World) (r : RedT) (hr : r.ok) (x : ItemT) (hx : R64 x.n) :
    Calls Try.prog 3 #[.agg #[.int .i64 r.c, .int .i64 r.i, .int .i64 (hiI r.v), .int .u64 (loI r.v), .int .i64 r.l, .int .i64 r.m], .agg #[.slice x.A1 x.n1 x.c1, .slice x.A2 x.n2 x.c2, .bool x.b, .int .i64 x.n]] w fun e w' => e = .returned (.bool true) ∧ Below w.heap.size w w' := by
  have hval : validB r.c r.i r.v r.l r.m = true ∨ validB r.c r.i r.v r.l r.m = false := by cases validB r.c r.i r.v r.l r.m <;> simp
  rcases hval with hval | hval
  · exact checks_yes hwk w r.c r.i r.v r.l r.m hr.2.2.1 hr.2.2.2.1 hr.2.2.2.2 hval x hx
  · exact checks_no hwk w r.c r.i r.v r.l r.m hr.2.2.1 hr.2.2.2.1 hr.2.2.2.2 hval x hx
end Go.Proofs.Ytinaecmpigenoaa
