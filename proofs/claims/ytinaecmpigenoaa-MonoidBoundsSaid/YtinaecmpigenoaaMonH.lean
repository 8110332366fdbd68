/-
  Layer 13: the rows of wakes.
-/
import Derived.Test.YtinaecmpigenoaaMonO
namespace Go.Proofs.Ytinaecmpigenoaa
open Go.RowKit
attribute [local go_sem ↓] Go.wp_at_zero Go.wp_at_succ

set_option maxRecDepth 20000 in
set_option maxHeartbeats 1000000 in
theorem row_any (n : Int) (w : World) (h : R64 n) : Calls Try.prog 24 #[.int .i64 n] w fun e w' => e = .returned (.agg #[.int .i64 1, .int .i64 1, .int .i64 (hiI n), .int .u64 (loI n), .int .i64 n, .int .i64 n]) ∧ Below w.heap.size w w' := by
  have hb0 : Below w.heap.size w (w.alloc (.cells #[.int .i64 0, .int .i64 0, .int .i64 0, .int .u64 0, .int .i64 0, .int .i64 0] 24)) := (Below.refl _ _).alloc (Nat.le_refl _) _
  go_enter Try.func24, Try.ntmps24
  go_wp2_with fail
  refine (one_any _ _ _ _ _ _ true n _ h).mono ?_
  rintro e w1 ⟨rfl, hb1⟩
  obtain ⟨⟨r0, r1, r2, r3, r4, r5⟩, f0, f1, f2, f3, f4, f5⟩ := six_new rfl hb1
  have hb2 := hb0.trans (hb1.mono hb0.size)
  clear hb0 hb1
  rw [show oneV true n = .agg #[.int .i64 1, .int .i64 1, .int .i64 (hiI n), .int .u64 (loI n), .int .i64 n, .int .i64 n] from rfl]
  go_wp2
  refine bodyPost_ret (v := .agg #[.int .i64 1, .int .i64 1, .int .i64 (hiI n), .int .u64 (loI n), .int .i64 n, .int .i64 n]) ?_ rfl ⟨rfl, below_set6 hb2 (Nat.le_refl _)⟩
  simp [results, Try.results24, go_sem, *]
end Go.Proofs.Ytinaecmpigenoaa
