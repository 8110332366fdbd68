import Derived.Test.YtinaecmpigenoaaGai
import Derived.Great.BuildSlice
/-
  Layer 13: the reference's Tell of the sum, and where it leaves 64 bits.
-/
namespace Go.Proofs.Ytinaecmpigenoaa
open Go.RowKit
attribute [local go_sem ↓] Go.wp_at_zero Go.wp_at_succ

set_option maxRecDepth 20000 in
set_option maxHeartbeats 2000000 in
theorem refTell_2_none (c i v le mo : Int) (w : World) (hi : i = 0) (hv : R128 v) (y : Int) (hy : IntKind.i64.wrap (loI v) = y) (ho : v = y) :
    Calls Try.prog 20 #[.int .i64 2, .agg #[.int .i64 c, .int .i64 i, .int .i64 (hiI v), .int .u64 (loI v), .int .i64 le, .int .i64 mo]] w fun e w' => e = .returned (.tuple #[.agg #[.int .i64 3, .int .i64 y, .string ⟨#[]⟩, .slice none 0 0, .slice none 0 0], .bool true]) ∧ Below w.heap.size w w' := by
  have hf := fun W => mfits_any v W hv
  rw [decide_eq_true (by rw [hy]; exact ho)] at hf
  have hy2 : wrap64 (loI v) = y := by
    have h1 := hy
    rw [IntKind.wrap_i64] at h1
    unfold wrap64
    omega
  have HY := Lib.hid hy2
  clear hy2
  clear ho hy
  have Hf := Lib.hid hf
  clear hf
  obtain ⟨h6, h51, h52, h53, hb0, hsz⟩ := vars4 w c i v le mo
  obtain ⟨W1, hW1⟩ : ∃ W1, (((w.alloc (.cells #[.int .i64 c, .int .i64 i, .int .i64 (hiI v), .int .u64 (loI v), .int .i64 le, .int .i64 mo] 24)).alloc (.cells #[.int .i64 0, .int .i64 0, .string ⟨#[]⟩, .slice none 0 0, .slice none 0 0] 42)).alloc (.cells #[.int .i64 1, .int .i64 0, .string ⟨#[]⟩, .slice none 0 0, .slice none 0 0] 42)).alloc (.cells #[.int .i64 1, .int .i64 0, .string ⟨#[]⟩, .slice none 0 0, .slice none 0 0] 42) = W1 := ⟨_, rfl⟩
  rw [hW1] at h6 h51 h52 h53 hb0 hsz
  have hz1 : w.heap.size + 4 ≤ W1.heap.size := by omega
  have HW1 := Lib.hid hW1
  have H6 := Lib.hid h6
  have H51 := Lib.hid h51
  have H52 := Lib.hid h52
  have H53 := Lib.hid h53
  clear hW1 hsz
  have hd : decide (0 < i) = false := by rw [hi]; rfl
  clear hi
  obtain ⟨⟨r0, r1, r2, r3, r4, r5⟩, -⟩ := h6
  obtain ⟨⟨d0, d1, d2, d3, d4⟩, f0, f1, f2, f3, f4⟩ := h51
  obtain ⟨⟨m0, m1, m2, m3, m4⟩, -⟩ := h52
  obtain ⟨⟨n0, n1, n2, n3, n4⟩, -⟩ := h53
  go_enter Try.func20, Try.ntmps20
  go_upto_region 3 with fail
  rw [HW1.out]
  clear HW1
  go_wp2_with fail
  refine (whole_any c i v le mo _).mono ?_
  rintro e w8 ⟨rfl, hb8⟩
  go_wp2_with fail
  refine (Hf.out _).mono ?_
  rintro e w9 ⟨rfl, hb9⟩
  have hb89 := hb8.trans (hb9.mono hb8.size)
  have P1 := Lib.hid (H51.out.below hb89 rfl)
  have P6 := Lib.hid (H6.out.below hb89 rfl)
  have hbX := hb0.trans (hb89.mono hb0.size)
  clear r0 r1 r2 r3 r4 r5 d0 d1 d2 d3 d4 f0 f1 f2 f3 f4 m0 m1 m2 m3 m4 n0 n1 n2 n3 n4 H6 H51 H52 H53 hb8 hb9 hb89
  obtain ⟨⟨r0, r1, r2, r3, r4, r5⟩, -⟩ := P6.out
  go_wp2_with fail
  rw [HY.out]
  refine (in_any y _).mono ?_
  rintro e w10 ⟨rfl, hb10⟩
  have hbY := hbX.trans (hb10.mono hbX.size)
  obtain ⟨⟨d0, d1, d2, d3, d4⟩, f0, f1, f2, f3, f4⟩ := P1.out.below hb10 rfl
  clear r0 r1 r2 r3 r4 r5 hb10
  go_wp2
  refine bodyPost_ret (v := .tuple #[.agg #[.int .i64 3, .int .i64 y, .string ⟨#[]⟩, .slice none 0 0, .slice none 0 0], .bool true]) ?_ rfl ⟨rfl, below_set5 hbY (Nat.le_succ _)⟩
  simp [results, Try.results20, go_sem, *]
set_option maxRecDepth 20000 in
set_option maxHeartbeats 2000000 in
theorem refOver_2_none (c i v le mo : Int) (w : World) (hi : i = 0) (hv : R128 v) (ho : ¬ v = IntKind.i64.wrap (loI v)) :
    Calls Try.prog 20 #[.int .i64 2, .agg #[.int .i64 c, .int .i64 i, .int .i64 (hiI v), .int .u64 (loI v), .int .i64 le, .int .i64 mo]] w fun e w' => e = .returned (.tuple #[.agg #[.int .i64 0, .int .i64 0, .string ⟨#[]⟩, .slice none 0 0, .slice none 0 0], .bool false]) ∧ Below w.heap.size w w' := by
  have hf := fun W => mfits_any v W hv
  rw [decide_eq_false ho] at hf
  clear ho
  have Hf := Lib.hid hf
  clear hf
  obtain ⟨h6, h51, h52, h53, hb0, hsz⟩ := vars4 w c i v le mo
  obtain ⟨W1, hW1⟩ : ∃ W1, (((w.alloc (.cells #[.int .i64 c, .int .i64 i, .int .i64 (hiI v), .int .u64 (loI v), .int .i64 le, .int .i64 mo] 24)).alloc (.cells #[.int .i64 0, .int .i64 0, .string ⟨#[]⟩, .slice none 0 0, .slice none 0 0] 42)).alloc (.cells #[.int .i64 1, .int .i64 0, .string ⟨#[]⟩, .slice none 0 0, .slice none 0 0] 42)).alloc (.cells #[.int .i64 1, .int .i64 0, .string ⟨#[]⟩, .slice none 0 0, .slice none 0 0] 42) = W1 := ⟨_, rfl⟩
  rw [hW1] at h6 h51 h52 h53 hb0 hsz
  have hz1 : w.heap.size + 4 ≤ W1.heap.size := by omega
  have HW1 := Lib.hid hW1
  have H6 := Lib.hid h6
  have H51 := Lib.hid h51
  have H52 := Lib.hid h52
  have H53 := Lib.hid h53
  clear hW1 hsz
  have hd : decide (0 < i) = false := by rw [hi]; rfl
  clear hi
  obtain ⟨⟨r0, r1, r2, r3, r4, r5⟩, -⟩ := h6
  obtain ⟨⟨d0, d1, d2, d3, d4⟩, f0, f1, f2, f3, f4⟩ := h51
  obtain ⟨⟨m0, m1, m2, m3, m4⟩, -⟩ := h52
  obtain ⟨⟨n0, n1, n2, n3, n4⟩, -⟩ := h53
  go_enter Try.func20, Try.ntmps20
  go_upto_region 3 with fail
  rw [HW1.out]
  clear HW1
  go_wp2_with fail
  refine (whole_any c i v le mo _).mono ?_
  rintro e w8 ⟨rfl, hb8⟩
  go_wp2_with fail
  refine (Hf.out _).mono ?_
  rintro e w9 ⟨rfl, hb9⟩
  have hb89 := hb8.trans (hb9.mono hb8.size)
  have P1 := Lib.hid (H51.out.below hb89 rfl)
  have P6 := Lib.hid (H6.out.below hb89 rfl)
  have hbX := hb0.trans (hb89.mono hb0.size)
  clear r0 r1 r2 r3 r4 r5 d0 d1 d2 d3 d4 f0 f1 f2 f3 f4 m0 m1 m2 m3 m4 n0 n1 n2 n3 n4 H6 H51 H52 H53 hb8 hb9 hb89
  have hbY := hbX
  obtain ⟨⟨d0, d1, d2, d3, d4⟩, f0, f1, f2, f3, f4⟩ := P1.out
  go_wp2
  refine bodyPost_ret (v := .tuple #[.agg #[.int .i64 0, .int .i64 0, .string ⟨#[]⟩, .slice none 0 0, .slice none 0 0], .bool false]) ?_ rfl ⟨rfl, below_set5 hbY (Nat.le_succ _)⟩
  simp [results, Try.results20, go_sem, *]
set_option maxRecDepth 20000 in
set_option maxHeartbeats 2000000 in
theorem refOver_5_none (c i v le mo : Int) (w : World) (hi : i = 0) (hv : R128 v) (ho : ¬ v = IntKind.i64.wrap (loI v)) :
    Calls Try.prog 20 #[.int .i64 5, .agg #[.int .i64 c, .int .i64 i, .int .i64 (hiI v), .int .u64 (loI v), .int .i64 le, .int .i64 mo]] w fun e w' => e = .returned (.tuple #[.agg #[.int .i64 0, .int .i64 0, .string ⟨#[]⟩, .slice none 0 0, .slice none 0 0], .bool false]) ∧ Below w.heap.size w w' := by
  have hf := fun W => mfits_any v W hv
  rw [decide_eq_false ho] at hf
  clear ho
  have Hf := Lib.hid hf
  clear hf
  obtain ⟨h6, h51, h52, h53, hb0, hsz⟩ := vars4 w c i v le mo
  obtain ⟨W1, hW1⟩ : ∃ W1, (((w.alloc (.cells #[.int .i64 c, .int .i64 i, .int .i64 (hiI v), .int .u64 (loI v), .int .i64 le, .int .i64 mo] 24)).alloc (.cells #[.int .i64 0, .int .i64 0, .string ⟨#[]⟩, .slice none 0 0, .slice none 0 0] 42)).alloc (.cells #[.int .i64 1, .int .i64 0, .string ⟨#[]⟩, .slice none 0 0, .slice none 0 0] 42)).alloc (.cells #[.int .i64 1, .int .i64 0, .string ⟨#[]⟩, .slice none 0 0, .slice none 0 0] 42) = W1 := ⟨_, rfl⟩
  rw [hW1] at h6 h51 h52 h53 hb0 hsz
  have hz1 : w.heap.size + 4 ≤ W1.heap.size := by omega
  have HW1 := Lib.hid hW1
  have H6 := Lib.hid h6
  have H51 := Lib.hid h51
  have H52 := Lib.hid h52
  have H53 := Lib.hid h53
  clear hW1 hsz
  have hd : decide (0 < i) = false := by rw [hi]; rfl
  clear hi
  obtain ⟨⟨r0, r1, r2, r3, r4, r5⟩, -⟩ := h6
  obtain ⟨⟨d0, d1, d2, d3, d4⟩, f0, f1, f2, f3, f4⟩ := h51
  obtain ⟨⟨m0, m1, m2, m3, m4⟩, -⟩ := h52
  obtain ⟨⟨n0, n1, n2, n3, n4⟩, -⟩ := h53
  go_enter Try.func20, Try.ntmps20
  go_upto_region 3 with fail
  rw [HW1.out]
  clear HW1
  go_wp2_with fail
  refine (whole_any c i v le mo _).mono ?_
  rintro e w8 ⟨rfl, hb8⟩
  go_wp2_with fail
  refine (Hf.out _).mono ?_
  rintro e w9 ⟨rfl, hb9⟩
  have hb89 := hb8.trans (hb9.mono hb8.size)
  have P1 := Lib.hid (H51.out.below hb89 rfl)
  have P6 := Lib.hid (H6.out.below hb89 rfl)
  have hbX := hb0.trans (hb89.mono hb0.size)
  clear r0 r1 r2 r3 r4 r5 d0 d1 d2 d3 d4 f0 f1 f2 f3 f4 m0 m1 m2 m3 m4 n0 n1 n2 n3 n4 H6 H51 H52 H53 hb8 hb9 hb89
  have hbY := hbX
  obtain ⟨⟨d0, d1, d2, d3, d4⟩, f0, f1, f2, f3, f4⟩ := P1.out
  go_wp2
  refine bodyPost_ret (v := .tuple #[.agg #[.int .i64 0, .int .i64 0, .string ⟨#[]⟩, .slice none 0 0, .slice none 0 0], .bool false]) ?_ rfl ⟨rfl, below_set5 hbY (Nat.le_succ _)⟩
  simp [results, Try.results20, go_sem, *]
set_option maxRecDepth 20000 in
set_option maxHeartbeats 2000000 in
theorem refTell_2_some (c i v le mo : Int) (w : World) (hi : 0 < i) (hv : R128 v) (y : Int) (hy : IntKind.i64.wrap (loI v) = y) (ho : v = y) :
    Calls Try.prog 20 #[.int .i64 2, .agg #[.int .i64 c, .int .i64 i, .int .i64 (hiI v), .int .u64 (loI v), .int .i64 le, .int .i64 mo]] w fun e w' => e = .returned (.tuple #[.agg #[.int .i64 3, .int .i64 y, .string ⟨#[]⟩, .slice none 0 0, .slice none 0 0], .bool true]) ∧ Below w.heap.size w w' := by
  have hf := fun W => mfits_any v W hv
  rw [decide_eq_true (by rw [hy]; exact ho)] at hf
  have hy2 : wrap64 (loI v) = y := by
    have h1 := hy
    rw [IntKind.wrap_i64] at h1
    unfold wrap64
    omega
  have HY := Lib.hid hy2
  clear hy2
  clear ho hy
  have Hf := Lib.hid hf
  clear hf
  obtain ⟨h6, h51, h52, h53, hb0, hsz⟩ := vars4 w c i v le mo
  obtain ⟨W1, hW1⟩ : ∃ W1, (((w.alloc (.cells #[.int .i64 c, .int .i64 i, .int .i64 (hiI v), .int .u64 (loI v), .int .i64 le, .int .i64 mo] 24)).alloc (.cells #[.int .i64 0, .int .i64 0, .string ⟨#[]⟩, .slice none 0 0, .slice none 0 0] 42)).alloc (.cells #[.int .i64 1, .int .i64 0, .string ⟨#[]⟩, .slice none 0 0, .slice none 0 0] 42)).alloc (.cells #[.int .i64 1, .int .i64 0, .string ⟨#[]⟩, .slice none 0 0, .slice none 0 0] 42) = W1 := ⟨_, rfl⟩
  rw [hW1] at h6 h51 h52 h53 hb0 hsz
  have hz1 : w.heap.size + 4 ≤ W1.heap.size := by omega
  have HW1 := Lib.hid hW1
  have H6 := Lib.hid h6
  have H51 := Lib.hid h51
  have H52 := Lib.hid h52
  have H53 := Lib.hid h53
  clear hW1 hsz
  have hd : decide (0 < i) = true := decide_eq_true hi
  obtain ⟨⟨r0, r1, r2, r3, r4, r5⟩, -⟩ := h6
  clear h51 h52 h53
  go_enter Try.func20, Try.ntmps20
  go_upto_region 3 with fail
  rw [HW1.out]
  clear HW1
  go_wp2_with fail
  refine (in_any le _).mono ?_
  rintro e w1 ⟨rfl, hb1⟩
  have J6 := Lib.hid (H6.out.below hb1 rfl)
  have J1 := Lib.hid (H51.out.below hb1 rfl)
  have J2 := Lib.hid (H52.out.below hb1 rfl)
  have J3 := Lib.hid (H53.out.below hb1 rfl)
  have hb2 := hb0.trans (hb1.mono hb0.size)
  have hz2 : w.heap.size + 4 ≤ w1.heap.size := by have := hb1.size; omega
  clear r0 r1 r2 r3 r4 r5 H6 H51 H52 H53 hb0 hb1 hz1
  obtain ⟨⟨d0, d1, d2, d3, d4⟩, f0, f1, f2, f3, f4⟩ := J2.out
  obtain ⟨⟨r0, r1, r2, r3, r4, r5⟩, -⟩ := J6.out
  go_upto_region 5 with fail
  obtain ⟨W2, hW2⟩ : ∃ W2, set5 w1 (w.heap.size + 2) (.int .i64 3) (.int .i64 le) (.string ⟨#[]⟩) (.slice none 0 0) (.slice none 0 0) = W2 := ⟨_, rfl⟩
  have K6 := Lib.hid (show Six W2 w.heap.size _ _ _ _ _ _ by rw [← hW2]; exact J6.out.off (by omega) _ _ _ _ _)
  have K1 := Lib.hid (show Five W2 (w.heap.size + 1) _ _ _ _ _ by rw [← hW2]; exact J1.out.off (by omega) _ _ _ _ _)
  have K2 := Lib.hid (show Five W2 (w.heap.size + 2) (.int .i64 3) (.int .i64 le) (.string ⟨#[]⟩) (.slice none 0 0) (.slice none 0 0) by rw [← hW2]; exact J2.out.set _ _ _ _ _)
  have K3 := Lib.hid (show Five W2 (w.heap.size + 3) _ _ _ _ _ by rw [← hW2]; exact J3.out.off (by omega) _ _ _ _ _)
  have hb3 : Below w.heap.size w W2 := by rw [← hW2]; exact below_set5 hb2 (by omega)
  have HW2 := Lib.hid hW2
  have hz3 : w.heap.size + 4 ≤ W2.heap.size := by rw [← hW2]; unfold set5; rw [set5_size]; exact hz2
  have hgoal := HW2.out
  unfold set5 at hgoal
  rw [hgoal]
  clear hgoal HW2 hW2 hb2 hz2 J6 J1 J2 J3 d0 d1 d2 d3 d4 f0 f1 f2 f3 f4 r0 r1 r2 r3 r4 r5
  obtain ⟨⟨r0, r1, r2, r3, r4, r5⟩, -⟩ := K6.out
  go_wp2_with fail
  refine (in_any mo _).mono ?_
  rintro e w2 ⟨rfl, hb4⟩
  have J6 := Lib.hid (K6.out.below hb4 rfl)
  have J1 := Lib.hid (K1.out.below hb4 rfl)
  have J2 := Lib.hid (K2.out.below hb4 rfl)
  have J3 := Lib.hid (K3.out.below hb4 rfl)
  have hb5 := hb3.trans (hb4.mono hb3.size)
  have hz4 : w.heap.size + 4 ≤ w2.heap.size := by have := hb4.size; omega
  clear r0 r1 r2 r3 r4 r5 K6 K1 K2 K3 hb3 hb4 hz3
  obtain ⟨⟨d0, d1, d2, d3, d4⟩, f0, f1, f2, f3, f4⟩ := J3.out
  go_upto_region 6 with fail
  obtain ⟨W4, hW4⟩ : ∃ W4, set5 w2 (w.heap.size + 3) (.int .i64 3) (.int .i64 mo) (.string ⟨#[]⟩) (.slice none 0 0) (.slice none 0 0) = W4 := ⟨_, rfl⟩
  have K6 := Lib.hid (show Six W4 w.heap.size _ _ _ _ _ _ by rw [← hW4]; exact J6.out.off (by omega) _ _ _ _ _)
  have K1 := Lib.hid (show Five W4 (w.heap.size + 1) _ _ _ _ _ by rw [← hW4]; exact J1.out.off (by omega) _ _ _ _ _)
  have K2 := Lib.hid (show Five W4 (w.heap.size + 2) _ _ _ _ _ by rw [← hW4]; exact J2.out.off (by omega) _ _ _ _ _)
  have K3 := Lib.hid (show Five W4 (w.heap.size + 3) (.int .i64 3) (.int .i64 mo) (.string ⟨#[]⟩) (.slice none 0 0) (.slice none 0 0) by rw [← hW4]; exact J3.out.set _ _ _ _ _)
  have hb6 : Below w.heap.size w W4 := by rw [← hW4]; exact below_set5 hb5 (by omega)
  have HW4 := Lib.hid hW4
  have hgoal := HW4.out
  unfold set5 at hgoal
  rw [hgoal]
  clear hgoal HW4 hW4 hb5 hz4 J6 J1 J2 J3 d0 d1 d2 d3 d4 f0 f1 f2 f3 f4
  obtain ⟨⟨r0, r1, r2, r3, r4, r5⟩, -⟩ := K6.out
  obtain ⟨⟨d0, d1, d2, d3, d4⟩, f0, f1, f2, f3, f4⟩ := K1.out
  obtain ⟨⟨m0, m1, m2, m3, m4⟩, -⟩ := K2.out
  obtain ⟨⟨n0, n1, n2, n3, n4⟩, -⟩ := K3.out
  go_wp2_with fail
  refine (whole_any c i v le mo _).mono ?_
  rintro e w8 ⟨rfl, hb8⟩
  go_wp2_with fail
  refine (Hf.out _).mono ?_
  rintro e w9 ⟨rfl, hb9⟩
  have hb89 := hb8.trans (hb9.mono hb8.size)
  have P1 := Lib.hid (K1.out.below hb89 rfl)
  have P6 := Lib.hid (K6.out.below hb89 rfl)
  have hbX := hb6.trans (hb89.mono hb6.size)
  clear r0 r1 r2 r3 r4 r5 d0 d1 d2 d3 d4 f0 f1 f2 f3 f4 m0 m1 m2 m3 m4 n0 n1 n2 n3 n4 K6 K1 K2 K3 hb8 hb9 hb89
  obtain ⟨⟨r0, r1, r2, r3, r4, r5⟩, -⟩ := P6.out
  go_wp2_with fail
  rw [HY.out]
  refine (in_any y _).mono ?_
  rintro e w10 ⟨rfl, hb10⟩
  have hbY := hbX.trans (hb10.mono hbX.size)
  obtain ⟨⟨d0, d1, d2, d3, d4⟩, f0, f1, f2, f3, f4⟩ := P1.out.below hb10 rfl
  clear r0 r1 r2 r3 r4 r5 hb10
  go_wp2
  refine bodyPost_ret (v := .tuple #[.agg #[.int .i64 3, .int .i64 y, .string ⟨#[]⟩, .slice none 0 0, .slice none 0 0], .bool true]) ?_ rfl ⟨rfl, below_set5 hbY (Nat.le_succ _)⟩
  simp [results, Try.results20, go_sem, *]
set_option maxRecDepth 20000 in
set_option maxHeartbeats 2000000 in
theorem refOver_2_some (c i v le mo : Int) (w : World) (hi : 0 < i) (hv : R128 v) (ho : ¬ v = IntKind.i64.wrap (loI v)) :
    Calls Try.prog 20 #[.int .i64 2, .agg #[.int .i64 c, .int .i64 i, .int .i64 (hiI v), .int .u64 (loI v), .int .i64 le, .int .i64 mo]] w fun e w' => e = .returned (.tuple #[.agg #[.int .i64 0, .int .i64 0, .string ⟨#[]⟩, .slice none 0 0, .slice none 0 0], .bool false]) ∧ Below w.heap.size w w' := by
  have hf := fun W => mfits_any v W hv
  rw [decide_eq_false ho] at hf
  clear ho
  have Hf := Lib.hid hf
  clear hf
  obtain ⟨h6, h51, h52, h53, hb0, hsz⟩ := vars4 w c i v le mo
  obtain ⟨W1, hW1⟩ : ∃ W1, (((w.alloc (.cells #[.int .i64 c, .int .i64 i, .int .i64 (hiI v), .int .u64 (loI v), .int .i64 le, .int .i64 mo] 24)).alloc (.cells #[.int .i64 0, .int .i64 0, .string ⟨#[]⟩, .slice none 0 0, .slice none 0 0] 42)).alloc (.cells #[.int .i64 1, .int .i64 0, .string ⟨#[]⟩, .slice none 0 0, .slice none 0 0] 42)).alloc (.cells #[.int .i64 1, .int .i64 0, .string ⟨#[]⟩, .slice none 0 0, .slice none 0 0] 42) = W1 := ⟨_, rfl⟩
  rw [hW1] at h6 h51 h52 h53 hb0 hsz
  have hz1 : w.heap.size + 4 ≤ W1.heap.size := by omega
  have HW1 := Lib.hid hW1
  have H6 := Lib.hid h6
  have H51 := Lib.hid h51
  have H52 := Lib.hid h52
  have H53 := Lib.hid h53
  clear hW1 hsz
  have hd : decide (0 < i) = true := decide_eq_true hi
  obtain ⟨⟨r0, r1, r2, r3, r4, r5⟩, -⟩ := h6
  clear h51 h52 h53
  go_enter Try.func20, Try.ntmps20
  go_upto_region 3 with fail
  rw [HW1.out]
  clear HW1
  go_wp2_with fail
  refine (in_any le _).mono ?_
  rintro e w1 ⟨rfl, hb1⟩
  have J6 := Lib.hid (H6.out.below hb1 rfl)
  have J1 := Lib.hid (H51.out.below hb1 rfl)
  have J2 := Lib.hid (H52.out.below hb1 rfl)
  have J3 := Lib.hid (H53.out.below hb1 rfl)
  have hb2 := hb0.trans (hb1.mono hb0.size)
  have hz2 : w.heap.size + 4 ≤ w1.heap.size := by have := hb1.size; omega
  clear r0 r1 r2 r3 r4 r5 H6 H51 H52 H53 hb0 hb1 hz1
  obtain ⟨⟨d0, d1, d2, d3, d4⟩, f0, f1, f2, f3, f4⟩ := J2.out
  obtain ⟨⟨r0, r1, r2, r3, r4, r5⟩, -⟩ := J6.out
  go_upto_region 5 with fail
  obtain ⟨W2, hW2⟩ : ∃ W2, set5 w1 (w.heap.size + 2) (.int .i64 3) (.int .i64 le) (.string ⟨#[]⟩) (.slice none 0 0) (.slice none 0 0) = W2 := ⟨_, rfl⟩
  have K6 := Lib.hid (show Six W2 w.heap.size _ _ _ _ _ _ by rw [← hW2]; exact J6.out.off (by omega) _ _ _ _ _)
  have K1 := Lib.hid (show Five W2 (w.heap.size + 1) _ _ _ _ _ by rw [← hW2]; exact J1.out.off (by omega) _ _ _ _ _)
  have K2 := Lib.hid (show Five W2 (w.heap.size + 2) (.int .i64 3) (.int .i64 le) (.string ⟨#[]⟩) (.slice none 0 0) (.slice none 0 0) by rw [← hW2]; exact J2.out.set _ _ _ _ _)
  have K3 := Lib.hid (show Five W2 (w.heap.size + 3) _ _ _ _ _ by rw [← hW2]; exact J3.out.off (by omega) _ _ _ _ _)
  have hb3 : Below w.heap.size w W2 := by rw [← hW2]; exact below_set5 hb2 (by omega)
  have HW2 := Lib.hid hW2
  have hz3 : w.heap.size + 4 ≤ W2.heap.size := by rw [← hW2]; unfold set5; rw [set5_size]; exact hz2
  have hgoal := HW2.out
  unfold set5 at hgoal
  rw [hgoal]
  clear hgoal HW2 hW2 hb2 hz2 J6 J1 J2 J3 d0 d1 d2 d3 d4 f0 f1 f2 f3 f4 r0 r1 r2 r3 r4 r5
  obtain ⟨⟨r0, r1, r2, r3, r4, r5⟩, -⟩ := K6.out
  go_wp2_with fail
  refine (in_any mo _).mono ?_
  rintro e w2 ⟨rfl, hb4⟩
  have J6 := Lib.hid (K6.out.below hb4 rfl)
  have J1 := Lib.hid (K1.out.below hb4 rfl)
  have J2 := Lib.hid (K2.out.below hb4 rfl)
  have J3 := Lib.hid (K3.out.below hb4 rfl)
  have hb5 := hb3.trans (hb4.mono hb3.size)
  have hz4 : w.heap.size + 4 ≤ w2.heap.size := by have := hb4.size; omega
  clear r0 r1 r2 r3 r4 r5 K6 K1 K2 K3 hb3 hb4 hz3
  obtain ⟨⟨d0, d1, d2, d3, d4⟩, f0, f1, f2, f3, f4⟩ := J3.out
  go_upto_region 6 with fail
  obtain ⟨W4, hW4⟩ : ∃ W4, set5 w2 (w.heap.size + 3) (.int .i64 3) (.int .i64 mo) (.string ⟨#[]⟩) (.slice none 0 0) (.slice none 0 0) = W4 := ⟨_, rfl⟩
  have K6 := Lib.hid (show Six W4 w.heap.size _ _ _ _ _ _ by rw [← hW4]; exact J6.out.off (by omega) _ _ _ _ _)
  have K1 := Lib.hid (show Five W4 (w.heap.size + 1) _ _ _ _ _ by rw [← hW4]; exact J1.out.off (by omega) _ _ _ _ _)
  have K2 := Lib.hid (show Five W4 (w.heap.size + 2) _ _ _ _ _ by rw [← hW4]; exact J2.out.off (by omega) _ _ _ _ _)
  have K3 := Lib.hid (show Five W4 (w.heap.size + 3) (.int .i64 3) (.int .i64 mo) (.string ⟨#[]⟩) (.slice none 0 0) (.slice none 0 0) by rw [← hW4]; exact J3.out.set _ _ _ _ _)
  have hb6 : Below w.heap.size w W4 := by rw [← hW4]; exact below_set5 hb5 (by omega)
  have HW4 := Lib.hid hW4
  have hgoal := HW4.out
  unfold set5 at hgoal
  rw [hgoal]
  clear hgoal HW4 hW4 hb5 hz4 J6 J1 J2 J3 d0 d1 d2 d3 d4 f0 f1 f2 f3 f4
  obtain ⟨⟨r0, r1, r2, r3, r4, r5⟩, -⟩ := K6.out
  obtain ⟨⟨d0, d1, d2, d3, d4⟩, f0, f1, f2, f3, f4⟩ := K1.out
  obtain ⟨⟨m0, m1, m2, m3, m4⟩, -⟩ := K2.out
  obtain ⟨⟨n0, n1, n2, n3, n4⟩, -⟩ := K3.out
  go_wp2_with fail
  refine (whole_any c i v le mo _).mono ?_
  rintro e w8 ⟨rfl, hb8⟩
  go_wp2_with fail
  refine (Hf.out _).mono ?_
  rintro e w9 ⟨rfl, hb9⟩
  have hb89 := hb8.trans (hb9.mono hb8.size)
  have P1 := Lib.hid (K1.out.below hb89 rfl)
  have P6 := Lib.hid (K6.out.below hb89 rfl)
  have hbX := hb6.trans (hb89.mono hb6.size)
  clear r0 r1 r2 r3 r4 r5 d0 d1 d2 d3 d4 f0 f1 f2 f3 f4 m0 m1 m2 m3 m4 n0 n1 n2 n3 n4 K6 K1 K2 K3 hb8 hb9 hb89
  have hbY := hbX
  obtain ⟨⟨d0, d1, d2, d3, d4⟩, f0, f1, f2, f3, f4⟩ := P1.out
  go_wp2
  refine bodyPost_ret (v := .tuple #[.agg #[.int .i64 0, .int .i64 0, .string ⟨#[]⟩, .slice none 0 0, .slice none 0 0], .bool false]) ?_ rfl ⟨rfl, below_set5 hbY (Nat.le_succ _)⟩
  simp [results, Try.results20, go_sem, *]
set_option maxRecDepth 20000 in
set_option maxHeartbeats 2000000 in
theorem refOver_5_some (c i v le mo : Int) (w : World) (hi : 0 < i) (hv : R128 v) (ho : ¬ v = IntKind.i64.wrap (loI v)) :
    Calls Try.prog 20 #[.int .i64 5, .agg #[.int .i64 c, .int .i64 i, .int .i64 (hiI v), .int .u64 (loI v), .int .i64 le, .int .i64 mo]] w fun e w' => e = .returned (.tuple #[.agg #[.int .i64 0, .int .i64 0, .string ⟨#[]⟩, .slice none 0 0, .slice none 0 0], .bool false]) ∧ Below w.heap.size w w' := by
  have hf := fun W => mfits_any v W hv
  rw [decide_eq_false ho] at hf
  clear ho
  have Hf := Lib.hid hf
  clear hf
  obtain ⟨h6, h51, h52, h53, hb0, hsz⟩ := vars4 w c i v le mo
  obtain ⟨W1, hW1⟩ : ∃ W1, (((w.alloc (.cells #[.int .i64 c, .int .i64 i, .int .i64 (hiI v), .int .u64 (loI v), .int .i64 le, .int .i64 mo] 24)).alloc (.cells #[.int .i64 0, .int .i64 0, .string ⟨#[]⟩, .slice none 0 0, .slice none 0 0] 42)).alloc (.cells #[.int .i64 1, .int .i64 0, .string ⟨#[]⟩, .slice none 0 0, .slice none 0 0] 42)).alloc (.cells #[.int .i64 1, .int .i64 0, .string ⟨#[]⟩, .slice none 0 0, .slice none 0 0] 42) = W1 := ⟨_, rfl⟩
  rw [hW1] at h6 h51 h52 h53 hb0 hsz
  have hz1 : w.heap.size + 4 ≤ W1.heap.size := by omega
  have HW1 := Lib.hid hW1
  have H6 := Lib.hid h6
  have H51 := Lib.hid h51
  have H52 := Lib.hid h52
  have H53 := Lib.hid h53
  clear hW1 hsz
  have hd : decide (0 < i) = true := decide_eq_true hi
  obtain ⟨⟨r0, r1, r2, r3, r4, r5⟩, -⟩ := h6
  clear h51 h52 h53
  go_enter Try.func20, Try.ntmps20
  go_upto_region 3 with fail
  rw [HW1.out]
  clear HW1
  go_wp2_with fail
  refine (in_any le _).mono ?_
  rintro e w1 ⟨rfl, hb1⟩
  have J6 := Lib.hid (H6.out.below hb1 rfl)
  have J1 := Lib.hid (H51.out.below hb1 rfl)
  have J2 := Lib.hid (H52.out.below hb1 rfl)
  have J3 := Lib.hid (H53.out.below hb1 rfl)
  have hb2 := hb0.trans (hb1.mono hb0.size)
  have hz2 : w.heap.size + 4 ≤ w1.heap.size := by have := hb1.size; omega
  clear r0 r1 r2 r3 r4 r5 H6 H51 H52 H53 hb0 hb1 hz1
  obtain ⟨⟨d0, d1, d2, d3, d4⟩, f0, f1, f2, f3, f4⟩ := J2.out
  obtain ⟨⟨r0, r1, r2, r3, r4, r5⟩, -⟩ := J6.out
  go_upto_region 5 with fail
  obtain ⟨W2, hW2⟩ : ∃ W2, set5 w1 (w.heap.size + 2) (.int .i64 3) (.int .i64 le) (.string ⟨#[]⟩) (.slice none 0 0) (.slice none 0 0) = W2 := ⟨_, rfl⟩
  have K6 := Lib.hid (show Six W2 w.heap.size _ _ _ _ _ _ by rw [← hW2]; exact J6.out.off (by omega) _ _ _ _ _)
  have K1 := Lib.hid (show Five W2 (w.heap.size + 1) _ _ _ _ _ by rw [← hW2]; exact J1.out.off (by omega) _ _ _ _ _)
  have K2 := Lib.hid (show Five W2 (w.heap.size + 2) (.int .i64 3) (.int .i64 le) (.string ⟨#[]⟩) (.slice none 0 0) (.slice none 0 0) by rw [← hW2]; exact J2.out.set _ _ _ _ _)
  have K3 := Lib.hid (show Five W2 (w.heap.size + 3) _ _ _ _ _ by rw [← hW2]; exact J3.out.off (by omega) _ _ _ _ _)
  have hb3 : Below w.heap.size w W2 := by rw [← hW2]; exact below_set5 hb2 (by omega)
  have HW2 := Lib.hid hW2
  have hz3 : w.heap.size + 4 ≤ W2.heap.size := by rw [← hW2]; unfold set5; rw [set5_size]; exact hz2
  have hgoal := HW2.out
  unfold set5 at hgoal
  rw [hgoal]
  clear hgoal HW2 hW2 hb2 hz2 J6 J1 J2 J3 d0 d1 d2 d3 d4 f0 f1 f2 f3 f4 r0 r1 r2 r3 r4 r5
  obtain ⟨⟨r0, r1, r2, r3, r4, r5⟩, -⟩ := K6.out
  go_wp2_with fail
  refine (in_any mo _).mono ?_
  rintro e w2 ⟨rfl, hb4⟩
  have J6 := Lib.hid (K6.out.below hb4 rfl)
  have J1 := Lib.hid (K1.out.below hb4 rfl)
  have J2 := Lib.hid (K2.out.below hb4 rfl)
  have J3 := Lib.hid (K3.out.below hb4 rfl)
  have hb5 := hb3.trans (hb4.mono hb3.size)
  have hz4 : w.heap.size + 4 ≤ w2.heap.size := by have := hb4.size; omega
  clear r0 r1 r2 r3 r4 r5 K6 K1 K2 K3 hb3 hb4 hz3
  obtain ⟨⟨d0, d1, d2, d3, d4⟩, f0, f1, f2, f3, f4⟩ := J3.out
  go_upto_region 6 with fail
  obtain ⟨W4, hW4⟩ : ∃ W4, set5 w2 (w.heap.size + 3) (.int .i64 3) (.int .i64 mo) (.string ⟨#[]⟩) (.slice none 0 0) (.slice none 0 0) = W4 := ⟨_, rfl⟩
  have K6 := Lib.hid (show Six W4 w.heap.size _ _ _ _ _ _ by rw [← hW4]; exact J6.out.off (by omega) _ _ _ _ _)
  have K1 := Lib.hid (show Five W4 (w.heap.size + 1) _ _ _ _ _ by rw [← hW4]; exact J1.out.off (by omega) _ _ _ _ _)
  have K2 := Lib.hid (show Five W4 (w.heap.size + 2) _ _ _ _ _ by rw [← hW4]; exact J2.out.off (by omega) _ _ _ _ _)
  have K3 := Lib.hid (show Five W4 (w.heap.size + 3) (.int .i64 3) (.int .i64 mo) (.string ⟨#[]⟩) (.slice none 0 0) (.slice none 0 0) by rw [← hW4]; exact J3.out.set _ _ _ _ _)
  have hb6 : Below w.heap.size w W4 := by rw [← hW4]; exact below_set5 hb5 (by omega)
  have HW4 := Lib.hid hW4
  have hgoal := HW4.out
  unfold set5 at hgoal
  rw [hgoal]
  clear hgoal HW4 hW4 hb5 hz4 J6 J1 J2 J3 d0 d1 d2 d3 d4 f0 f1 f2 f3 f4
  obtain ⟨⟨r0, r1, r2, r3, r4, r5⟩, -⟩ := K6.out
  obtain ⟨⟨d0, d1, d2, d3, d4⟩, f0, f1, f2, f3, f4⟩ := K1.out
  obtain ⟨⟨m0, m1, m2, m3, m4⟩, -⟩ := K2.out
  obtain ⟨⟨n0, n1, n2, n3, n4⟩, -⟩ := K3.out
  go_wp2_with fail
  refine (whole_any c i v le mo _).mono ?_
  rintro e w8 ⟨rfl, hb8⟩
  go_wp2_with fail
  refine (Hf.out _).mono ?_
  rintro e w9 ⟨rfl, hb9⟩
  have hb89 := hb8.trans (hb9.mono hb8.size)
  have P1 := Lib.hid (K1.out.below hb89 rfl)
  have P6 := Lib.hid (K6.out.below hb89 rfl)
  have hbX := hb6.trans (hb89.mono hb6.size)
  clear r0 r1 r2 r3 r4 r5 d0 d1 d2 d3 d4 f0 f1 f2 f3 f4 m0 m1 m2 m3 m4 n0 n1 n2 n3 n4 K6 K1 K2 K3 hb8 hb9 hb89
  have hbY := hbX
  obtain ⟨⟨d0, d1, d2, d3, d4⟩, f0, f1, f2, f3, f4⟩ := P1.out
  go_wp2
  refine bodyPost_ret (v := .tuple #[.agg #[.int .i64 0, .int .i64 0, .string ⟨#[]⟩, .slice none 0 0, .slice none 0 0], .bool false]) ?_ rfl ⟨rfl, below_set5 hbY (Nat.le_succ _)⟩
  simp [results, Try.results20, go_sem, *]
end Go.Proofs.Ytinaecmpigenoaa
/-
  Steps of a region that draws, more of them: a row made of values, an append onto a row of one's own beside another such row of the same type. No program in sight.
-/
namespace Go.Proofs.Ytinaecmpigenoaa
open Go.RowKit
set_option linter.unusedVariables false

/-- Two rows of one's own are apart. -/
def ApartV (v u : Value) : Prop := u.ownBlock = none ∨ u.ownBlock ≠ v.ownBlock
theorem shows_made (W : World) (cs : Array Value) (t : TypeId) (g n size : Nat) (hg : W.heap.size = g) (hl : cs.toList.length = n * size) : Shows (W.alloc (.cells cs t)) (g + 1) size (some ⟨g, 0, none⟩) n cs.toList := by
  subst hg
  refine ⟨hl, fun _ => ⟨W.heap.size, 0, rfl, by omega, fun j u hu => ?_⟩⟩
  rw [Nat.zero_add]
  refine (World.cell?_alloc_new W _ t j).trans ?_
  simpa using hu
section
variable {P : Program} {w w' : World} {o : Oper} {a : Act} {K : Act → World → Prop} {Q : Exit → Act → World → Prop}
/-- '[]T{..}'. -/
theorem step_rows (t e : TypeId) (k : Nat) (xs : Array (Nat × Operand)) (ho : o.op = .buildSlice t k xs) (size : Nat) (i : TypeInfo) (z : Value) (ht : P.underlying t = some (.slice e)) (hi : P.info? e = some i) (hz : i.zero = some z) (hsize : i.size = size)
    (cells : Array Value) (hf : Instr.fill (fun q => some (q * size, size)) ((Array.range (k * size)).map (z.cells[· % z.cells.size]!)) (xs.toList.map fun p => (p.1, a.eval p.2)) = some cells) (hcs : cells.toList.length = k * size) (h0 : ¬ k * size = 0) (h24 : ¬ k * size > 2 ^ 24)
    (h : ∀ g w', w.heap.size ≤ g → Shows w' (g + 1) size (some ⟨g, 0, none⟩) k cells.toList → g + 1 ≤ w'.heap.size → Below w.heap.size w w' → K (a.put o.dst (.slice (some ⟨g, 0, none⟩) k k)) w') : o.wp P a w K Q := by
  refine wp_buildSlice t e k xs ho cells i z ht hi hz (by rw [hsize]; exact h24) (by rw [hsize]; exact h0) (by rw [hsize]; simpa using hf) ?_
  exact h w.heap.size (w.alloc (.cells cells e)) (Nat.le_refl _) (shows_made w cells e w.heap.size k size rfl hcs) (by rw [World.size_alloc]; exact Nat.le_refl _) ((Below.refl _ _).alloc (Nat.le_refl _) _)
/-- append onto a row of one's own, beside another one. -/
theorem step_appO (s x : Operand) (t : TypeId) (ho : o.op = .call { callee := .builtin .append, args := #[s, x], argTypes := #[t, t] })
    (base : Nat) (e : TypeId) (i : TypeInfo) (z : Value) (size bytes : Nat) (ht : P.underlying t = some (.slice e)) (hi : P.info? e = some i) (hz : i.zero = some z)
    (hsize : i.size = size) (hby : i.bytes = bytes) (hzs : z.cells.size = size) (hsz : 0 < size)
    (v : Value) (n : Nat) (xs : List Value) (hs : a.eval s = v) (hown : w.ownsRow base e size v n xs)
    (B : Nat) (b : Nat) (m c : Nat) (news : List Value) (hx : a.eval x = .slice (some ⟨b, 0, none⟩) m c) (hr : Shows w B size (some ⟨b, 0, none⟩) m news) (h1 : ∀ u ∈ news, u.oneCell' = true)
    (h63 : n + m ≤ maxLen) (hbytes : (n + m) * bytes ≤ 140737488355328) (hbase : base ≤ w.heap.size)
    (h : ∀ A' c' w', w'.ownsRow base e size (.slice A' (n + m) c') (n + m) (xs ++ news) → w.grownBy w' v.ownBlock → Below base w w' → ((Value.slice A' (n + m) c').ownBlock = v.ownBlock ∨ (Value.slice A' (n + m) c').ownBlock = some w.heap.size) → K (a.put o.dst (.slice A' (n + m) c')) w') :
    o.wp P a w K Q := by
  have hcells : ∀ j u, news[j]? = some u → w.cell? ((⟨b, 0, none⟩ : Addr).add j) = some u := by
    intro j u hu
    rcases Nat.eq_zero_or_pos m with h0 | h0
    · subst h0
      have hn : news = [] := List.eq_nil_of_length_eq_zero (by simpa using hr.1)
      subst hn
      simp at hu
    · obtain ⟨b', off, he, _, hc⟩ := hr.2 h0
      injection he with he
      injection he with e1 e2
      subst e1; subst e2
      rw [addr_add]
      exact hc j u hu
  obtain ⟨v', w', hrun, h2, h3, _, h4⟩ := run_append_own_at (P := P) w base t o.type e i z size bytes ht hi hz hsize hby hzs hsz v n xs hown ⟨b, 0, none⟩ m c news hr.1 hcells h1 h63 hbytes hbase
  obtain ⟨A', c', rfl, _, _⟩ := own_form h2
  unfold Oper.wp execOp
  simp only [ho, resolve, invoke, builtin, Sem.run_bind, Sem.run_pure, Result.andThen_ok, List.map_toArray, List.map_cons, List.map_nil, hs, hx, hrun]
  exact h A' c' w' h2 h3 ((Below.refl base w).grown h3 hbase fun k hk => (hown.lt k hk).1) h4
theorem wpList_appO {ops : Array Oper} {rest : List Oper} (hgd : o.guard = none) (s x : Operand) (t : TypeId) (ho : o.op = .call { callee := .builtin .append, args := #[s, x], argTypes := #[t, t] })
    (base : Nat) (e : TypeId) (i : TypeInfo) (z : Value) (size bytes : Nat) (ht : P.underlying t = some (.slice e)) (hi : P.info? e = some i) (hz : i.zero = some z)
    (hsize : i.size = size) (hby : i.bytes = bytes) (hzs : z.cells.size = size) (hsz : 0 < size)
    (v : Value) (n : Nat) (xs : List Value) (hs : a.eval s = v) (hown : w.ownsRow base e size v n xs)
    (B : Nat) (b : Nat) (m c : Nat) (news : List Value) (hx : a.eval x = .slice (some ⟨b, 0, none⟩) m c) (hr : Shows w B size (some ⟨b, 0, none⟩) m news) (h1 : ∀ u ∈ news, u.oneCell' = true)
    (h63 : n + m ≤ maxLen) (hbytes : (n + m) * bytes ≤ 140737488355328) (hbase : base ≤ w.heap.size)
    (h : ∀ A' c' w', w'.ownsRow base e size (.slice A' (n + m) c') (n + m) (xs ++ news) → w.grownBy w' v.ownBlock → Below base w w' → ((Value.slice A' (n + m) c').ownBlock = v.ownBlock ∨ (Value.slice A' (n + m) c').ownBlock = some w.heap.size) → wpList P ops Q rest (a.put o.dst (.slice A' (n + m) c')) w') :
    wpList P ops Q (o :: rest) a w :=
  wpList_plain hgd fun _ hK => step_appO s x t ho base e i z size bytes ht hi hz hsize hby hzs hsz v n xs hs hown B b m c news hx hr h1 h63 hbytes hbase fun A' c' w' h2 h3 h4 h5 => hK _ _ (h A' c' w' h2 h3 h4 h5)
theorem apart_app {base size n : Nat} {e : TypeId} {v v' u : Value} {xs : List Value} (ha : ApartV v u) (hu : w.ownsRow base e size u n xs) (hor : v'.ownBlock = v.ownBlock ∨ v'.ownBlock = some w.heap.size) : ApartV v' u := by
  rcases ha with h | h
  · exact .inl h
  · rcases hor with h2 | h2
    · exact .inr (by rw [h2]; exact h)
    · refine .inr fun e => ?_
      rw [h2] at e
      have := (hu.lt _ e).2
      omega
theorem apart_turn {v u : Value} (h : ApartV v u) : ApartV u v := by
  rcases h with h | h
  · cases hv : v.ownBlock with
    | none => exact .inl hv
    | some k => exact .inr (by rw [hv, h]; simp)
  · exact .inr fun e => h e.symm
end
end Go.Proofs.Ytinaecmpigenoaa
