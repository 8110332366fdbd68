/-
  Layer 13: wakes.
-/
import Derived.Test.YtinaecmpigenoaaMonA
namespace Go.Proofs.Ytinaecmpigenoaa
open Go.RowKit
attribute [local go_sem ↓] Go.wp_at_zero Go.wp_at_succ

theorem hl_2 : hiI 2 = 0 ∧ loI 2 = 2 := by unfold hiI loI wrap64; decide
theorem hl_5 : hiI 5 = 0 ∧ loI 5 = 5 := by unfold hiI loI wrap64; decide
theorem tell_two (w : World) : Calls Try.prog 15 #[.int .i64 2, .agg #[.int .i64 3, .int .i64 2, .int .i64 0, .int .u64 2, .int .i64 (-1), .int .i64 3]] w fun e w' => e = .returned (.tuple #[.agg #[.int .i64 3, .int .i64 2, .string ⟨#[]⟩, .slice none 0 0, .slice none 0 0], .int .i64 0]) ∧ Below w.heap.size w w' := by
  have h := tell_sum 3 2 2 (-1) 3 w (by unfold R128; omega) (by unfold R64; omega) (by unfold R64; omega) (by decide) (by decide)
  rw [hl_2.1, hl_2.2] at h
  exact h
theorem tell_twice (w : World) : Calls Try.prog 15 #[.int .i64 2, .agg #[.int .i64 2, .int .i64 2, .int .i64 (hiI 18446744073709551614), .int .u64 (loI 18446744073709551614), .int .i64 9223372036854775807, .int .i64 9223372036854775807]] w fun e w' => e = .returned (.tuple #[.agg #[.int .i64 0, .int .i64 0, .string ⟨#[]⟩, .slice none 0 0, .slice none 0 0], .int .i64 5]) ∧ Below w.heap.size w w' :=
  tell_over 2 2 18446744073709551614 9223372036854775807 9223372036854775807 w (by unfold R128; omega) (by unfold R64; omega) (by unfold R64; omega) (by decide) (by decide)
theorem check_bad (w : World) : Calls Try.prog 9 #[.agg #[.int .i64 1, .int .i64 1, .int .i64 0, .int .u64 5, .int .i64 4, .int .i64 5]] w fun e w' => e = .returned (.int .i64 230) ∧ Below w.heap.size w w' := by
  have h := check_any 1 1 5 4 5 w (by unfold R128; omega) (by unfold R64; omega) (by unfold R64; omega)
  unfold redV at h
  rw [hl_5.1, hl_5.2, show redE 1 1 5 4 5 = 230 by decide] at h
  exact h
theorem kind_sum (w : World) : Calls Try.prog 17 #[.string ⟨#[95, 115, 117, 109]⟩] w fun e w' => e = .returned (.tuple #[.int .i64 2, .int .i64 0]) ∧ Below w.heap.size w w' := by
  refine (kind_any ⟨#[95, 115, 117, 109]⟩ w).mono ?_
  rintro e w' ⟨rfl, hb⟩
  rw [(kind_is2 _ rfl).1, (kind_is2 _ rfl).2]
  exact ⟨rfl, hb⟩
theorem far_at (w : World) (o : Obj) : Calls Try.prog 13 #[.slice (some ⟨w.heap.size + 1, 0, none⟩) 2 2] ((w.alloc o).alloc (.cells #[.int .i64 3, .int .i64 2, .int .i64 0, .int .u64 2, .int .i64 (-1), .int .i64 3, .int .i64 1073741824, .int .i64 0, .int .i64 0, .int .u64 0, .int .i64 0, .int .i64 0] 24)) fun e w' => e = .returned (.tuple #[.agg #[.int .i64 0, .int .i64 0, .int .i64 0, .int .u64 0, .int .i64 0, .int .i64 0], .int .i64 5]) ∧ Below (w.heap.size + 2) ((w.alloc o).alloc (.cells #[.int .i64 3, .int .i64 2, .int .i64 0, .int .u64 2, .int .i64 (-1), .int .i64 3, .int .i64 1073741824, .int .i64 0, .int .i64 0, .int .u64 0, .int .i64 0, .int .i64 0] 24)) w' := by
  have h := far_join (w.alloc o)
  rw [show (w.alloc o).heap.size = w.heap.size + 1 by simp] at h
  refine h.mono ?_
  rintro e w' ⟨rfl, hb⟩
  exact ⟨rfl, hb.mono (by simp)⟩
theorem cell_new5 {w : World} (a b c d e : Value) (t : TypeId) (k : Nat) {v : Value} (h : (#[a, b, c, d, e] : Array Value)[k]? = some v) : (w.alloc (.cells #[a, b, c, d, e] t)).cell? ⟨w.heap.size, k, none⟩ = some v := (World.cell?_alloc_new w _ t k).trans h

set_option maxRecDepth 100000 in
set_option maxHeartbeats 4000000 in
theorem wakes_any (w : World) : Calls Try.prog 8 #[] w fun e w' => e = .returned (.bool true) ∧ Below w.heap.size w w' := by
  go_enter Try.func8, Try.ntmps8
  go_wp2_with fail
  refine (row_any (-1) _ (by unfold R64; omega)).mono ?_
  rintro e w1 ⟨rfl, hb1⟩
  go_wp2_with fail
  refine (one_any _ _ _ _ _ _ false 9 _ (by unfold R64; omega)).mono ?_
  rintro e w2 ⟨rfl, hb2⟩
  rw [oneV_no]
  have hb2 := hb1.trans (hb2.mono hb1.size)
  clear hb1
  go_wp2_with fail
  refine (row_any 3 _ (by unfold R64; omega)).mono ?_
  rintro e w3 ⟨rfl, hb3⟩
  have hb3 := hb2.trans (hb3.mono hb2.size)
  clear hb2
  go_wp2_with fail
  refine (three_join w3).mono ?_
  rintro e w4 ⟨rfl, hb4⟩
  have hb4 := (hb3.alloc hb3.size _).trans (hb4.mono (by have := hb3.size; simp; omega))
  clear hb3
  have s4 := Six.new w4 (.int .i64 3) (.int .i64 2) (.int .i64 0) (.int .u64 2) (.int .i64 (-1)) (.int .i64 3) 24
  go_wp2_with fail
  refine (far_at w4 _).mono ?_
  rintro e w5 ⟨rfl, hb5⟩
  have s5 := (s4.alloc _).below hb5 (by simp)
  have hb5 := ((hb4.alloc hb4.size _).alloc (by have := hb4.size; simp; omega) _).trans (hb5.mono (by have := hb4.size; omega))
  have z45 : w4.heap.size < w5.heap.size := World.block_lt_of_cell? w5 _ s5.1.1
  clear hb4 s4
  have s5 := s5.alloc (.cells #[.int .i64 0, .int .i64 0, .int .i64 0, .int .u64 0, .int .i64 0, .int .i64 0] 24)
  have hb5 := hb5.alloc hb5.size (.cells #[.int .i64 0, .int .i64 0, .int .i64 0, .int .u64 0, .int .i64 0, .int .i64 0] 24)
  have S5 := Lib.hid s5
  obtain ⟨⟨r0, r1, r2, r3, r4, r5⟩, -⟩ := s5
  go_wp2_with fail
  refine (tell_two _).mono ?_
  rintro e w6 ⟨rfl, hb6⟩
  have s6 := S5.out.below hb6 rfl
  clear r0 r1 r2 r3 r4 r5 S5
  have hb6 := hb5.trans (hb6.mono hb5.size)
  clear hb5
  have s6 := s6.alloc (.cells #[.int .i64 3, .int .i64 2, .string ⟨#[]⟩, .slice none 0 0, .slice none 0 0] 42)
  have v6 := cell_new5 (w := w6) (.int .i64 3) (.int .i64 2) (.string ⟨#[]⟩) (.slice none 0 0) (.slice none 0 0) 42 1 rfl
  have hb6 := hb6.alloc hb6.size (.cells #[.int .i64 3, .int .i64 2, .string ⟨#[]⟩, .slice none 0 0, .slice none 0 0] 42)
  have S6 := Lib.hid s6
  have V6 := Lib.hid v6
  clear s6 v6
  go_wp2_with fail
  refine (row_any 9223372036854775807 _ (by unfold R64; omega)).mono ?_
  rintro e w7 ⟨rfl, hb7⟩
  have S7 := Lib.hid (S6.out.below hb7 rfl)
  have V7 := Lib.hid (kept_later hb7 V6.out)
  have hb7 := hb6.trans (hb7.mono hb6.size)
  clear S6 V6 hb6
  go_wp2_with fail
  refine (row_any 9223372036854775807 _ (by unfold R64; omega)).mono ?_
  rintro e w8 ⟨rfl, hb8⟩
  have S8 := Lib.hid (S7.out.below hb8 rfl)
  have V8 := Lib.hid (kept_later hb8 V7.out)
  have hb8 := hb7.trans (hb8.mono hb7.size)
  clear S7 V7 hb7
  go_wp2_with fail
  refine (twice_join w8).mono ?_
  rintro e w9 ⟨rfl, hb9⟩
  have S9 := Lib.hid ((S8.out.alloc _).below hb9 rfl)
  have V9 := Lib.hid (kept_later hb9 (cell_keep V8.out _))
  have hb9 := (hb8.alloc hb8.size _).trans (hb9.mono (by have := hb8.size; simp; omega))
  clear S8 V8 hb8
  go_wp2_with fail
  refine (tell_twice _).mono ?_
  rintro e w10 ⟨rfl, hb10⟩
  have S10 := Lib.hid ((S9.out.alloc _).below hb10 rfl)
  have V10 := Lib.hid (kept_later hb10 (cell_keep V9.out _))
  have hb10 := (hb9.alloc hb9.size _).trans (hb10.mono (by have := hb9.size; simp; omega))
  clear S9 V9 hb9
  go_wp2_with fail
  refine (check_bad _).mono ?_
  rintro e w11 ⟨rfl, hb11⟩
  have S11 := Lib.hid ((S10.out.alloc _).below hb11 rfl)
  have V11 := Lib.hid (kept_later hb11 (cell_keep V10.out _))
  have hb11 := (hb10.alloc hb10.size _).trans (hb11.mono (by have := hb10.size; simp; omega))
  clear S10 V10 hb10
  go_wp2_with fail
  refine (kind_sum _).mono ?_
  rintro e w12 ⟨rfl, hb12⟩
  have S12 := S11.out.below hb12 rfl
  have V12 := kept_later hb12 V11.out
  have hb12 := hb11.trans (hb12.mono hb11.size)
  clear S11 V11 hb11
  obtain ⟨⟨r0, r1, r2, r3, r4, r5⟩, -⟩ := S12
  go_wp2
  go_ret
  exact ⟨rfl, hb12⟩
end Go.Proofs.Ytinaecmpigenoaa
