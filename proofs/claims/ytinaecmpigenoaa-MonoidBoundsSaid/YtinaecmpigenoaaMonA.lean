/-
  Layer 13: wakes.
-/
import Derived.Test.YtinaecmpigenoaaMonY
import Derived.Test.YtinaecmpigenoaaMonL
import Derived.Test.YtinaecmpigenoaaMonI
import Derived.Test.YtinaecmpigenoaaMonH
namespace Go.Proofs.Ytinaecmpigenoaa
open Go.RowKit
attribute [local go_sem ↓] Go.wp_at_zero Go.wp_at_succ

/-- The reduction of a row, as numbers. -/
def rowT (n : Int) : RedT := ⟨1, 1, n, n, n⟩
theorem reds_new (w : World) (C : Array Value) (t : TypeId) (n : Nat) (l : List RedT) (hC : C.toList = l.flatMap RedT.cells) (hn : (l.flatMap RedT.cells).length = n * 6) : Reds (w.alloc (.cells C t)) (w.heap.size + 1) (some ⟨w.heap.size, 0, none⟩) n l := by
  refine ⟨hn, fun _ => ⟨w.heap.size, 0, rfl, by omega, fun j v hj => ?_⟩⟩
  rw [Nat.zero_add]
  refine (World.cell?_alloc_new w C t j).trans ?_
  rw [← hC] at hj
  simpa using hj
/-- The three rows of wakes. -/
def three : List RedT := [⟨1, 1, -1, -1, -1⟩, ⟨1, 0, 0, 0, 0⟩, ⟨1, 1, 3, 3, 3⟩]
theorem three_ok : ∀ r ∈ three, r.ok := by
  intro r hr
  unfold three at hr
  simp only [List.mem_cons, List.not_mem_nil, or_false] at hr
  rcases hr with rfl | rfl | rfl <;> (unfold RedT.ok R64 R128; simp only; omega)
theorem three_all : jall three = (⟨3, 2, 2, -1, 3⟩, 0) := by rfl
theorem three_join (w : World) : Calls Try.prog 13 #[.slice (some ⟨w.heap.size, 0, none⟩) 3 3] (w.alloc (.cells #[.int .i64 1, .int .i64 1, .int .i64 (hiI (-1)), .int .u64 (loI (-1)), .int .i64 (-1), .int .i64 (-1), .int .i64 1, .int .i64 0, .int .i64 0, .int .u64 0, .int .i64 0, .int .i64 0, .int .i64 1, .int .i64 1, .int .i64 (hiI (3)), .int .u64 (loI (3)), .int .i64 (3), .int .i64 (3)] 24)) fun e w' => e = .returned (.tuple #[.agg #[.int .i64 3, .int .i64 2, .int .i64 0, .int .u64 2, .int .i64 (-1), .int .i64 3], .int .i64 0]) ∧ Below (w.alloc (.cells #[.int .i64 1, .int .i64 1, .int .i64 (hiI (-1)), .int .u64 (loI (-1)), .int .i64 (-1), .int .i64 (-1), .int .i64 1, .int .i64 0, .int .i64 0, .int .u64 0, .int .i64 0, .int .i64 0, .int .i64 1, .int .i64 1, .int .i64 (hiI (3)), .int .u64 (loI (3)), .int .i64 (3), .int .i64 (3)] 24)).heap.size (w.alloc (.cells #[.int .i64 1, .int .i64 1, .int .i64 (hiI (-1)), .int .u64 (loI (-1)), .int .i64 (-1), .int .i64 (-1), .int .i64 1, .int .i64 0, .int .i64 0, .int .u64 0, .int .i64 0, .int .i64 0, .int .i64 1, .int .i64 1, .int .i64 (hiI (3)), .int .u64 (loI (3)), .int .i64 (3), .int .i64 (3)] 24)) w' := by
  refine (joinAll_any _ 3 3 (w.heap.size + 1) three _ (reds_new w #[.int .i64 1, .int .i64 1, .int .i64 (hiI (-1)), .int .u64 (loI (-1)), .int .i64 (-1), .int .i64 (-1), .int .i64 1, .int .i64 0, .int .i64 0, .int .u64 0, .int .i64 0, .int .i64 0, .int .i64 1, .int .i64 1, .int .i64 (hiI (3)), .int .u64 (loI (3)), .int .i64 (3), .int .i64 (3)] _ 3 three (by kernel_rfl) (by kernel_rfl)) (by simp) three_ok (by omega)).mono ?_
  rintro e w' ⟨rfl, hb⟩
  rw [three_all]
  exact ⟨by kernel_rfl, hb⟩
/-- The two rows of a Join of wakes. -/
def far : List RedT := [⟨3, 2, 2, -1, 3⟩, ⟨1073741824, 0, 0, 0, 0⟩]
theorem far_ok : ∀ r ∈ far, r.ok := by
  intro r hr
  unfold far at hr
  simp only [List.mem_cons, List.not_mem_nil, or_false] at hr
  rcases hr with rfl | rfl <;> (unfold RedT.ok R64 R128; simp only; omega)
theorem far_join (w : World) : Calls Try.prog 13 #[.slice (some ⟨w.heap.size, 0, none⟩) 2 2] (w.alloc (.cells #[.int .i64 3, .int .i64 2, .int .i64 0, .int .u64 2, .int .i64 (-1), .int .i64 3, .int .i64 1073741824, .int .i64 0, .int .i64 0, .int .u64 0, .int .i64 0, .int .i64 0] 24)) fun e w' => e = .returned (.tuple #[.agg #[.int .i64 0, .int .i64 0, .int .i64 0, .int .u64 0, .int .i64 0, .int .i64 0], .int .i64 5]) ∧ Below (w.alloc (.cells #[.int .i64 3, .int .i64 2, .int .i64 0, .int .u64 2, .int .i64 (-1), .int .i64 3, .int .i64 1073741824, .int .i64 0, .int .i64 0, .int .u64 0, .int .i64 0, .int .i64 0] 24)).heap.size (w.alloc (.cells #[.int .i64 3, .int .i64 2, .int .i64 0, .int .u64 2, .int .i64 (-1), .int .i64 3, .int .i64 1073741824, .int .i64 0, .int .i64 0, .int .u64 0, .int .i64 0, .int .i64 0] 24)) w' := by
  refine (joinAll_any _ 2 2 (w.heap.size + 1) far _ (reds_new w #[.int .i64 3, .int .i64 2, .int .i64 0, .int .u64 2, .int .i64 (-1), .int .i64 3, .int .i64 1073741824, .int .i64 0, .int .i64 0, .int .u64 0, .int .i64 0, .int .i64 0] _ 2 far (by kernel_rfl) (by kernel_rfl)) (by simp) far_ok (by omega)).mono ?_
  rintro e w' ⟨rfl, hb⟩
  exact ⟨by kernel_rfl, hb⟩
/-- The two rows of a Join of wakes. -/
def twice : List RedT := [⟨1, 1, 9223372036854775807, 9223372036854775807, 9223372036854775807⟩, ⟨1, 1, 9223372036854775807, 9223372036854775807, 9223372036854775807⟩]
theorem twice_ok : ∀ r ∈ twice, r.ok := by
  intro r hr
  unfold twice at hr
  simp only [List.mem_cons, List.not_mem_nil, or_false] at hr
  rcases hr with rfl | rfl <;> (unfold RedT.ok R64 R128; simp only; omega)
theorem twice_join (w : World) : Calls Try.prog 13 #[.slice (some ⟨w.heap.size, 0, none⟩) 2 2] (w.alloc (.cells #[.int .i64 1, .int .i64 1, .int .i64 (hiI 9223372036854775807), .int .u64 (loI 9223372036854775807), .int .i64 9223372036854775807, .int .i64 9223372036854775807, .int .i64 1, .int .i64 1, .int .i64 (hiI 9223372036854775807), .int .u64 (loI 9223372036854775807), .int .i64 9223372036854775807, .int .i64 9223372036854775807] 24)) fun e w' => e = .returned (.tuple #[.agg #[.int .i64 2, .int .i64 2, .int .i64 (hiI 18446744073709551614), .int .u64 (loI 18446744073709551614), .int .i64 9223372036854775807, .int .i64 9223372036854775807], .int .i64 0]) ∧ Below (w.alloc (.cells #[.int .i64 1, .int .i64 1, .int .i64 (hiI 9223372036854775807), .int .u64 (loI 9223372036854775807), .int .i64 9223372036854775807, .int .i64 9223372036854775807, .int .i64 1, .int .i64 1, .int .i64 (hiI 9223372036854775807), .int .u64 (loI 9223372036854775807), .int .i64 9223372036854775807, .int .i64 9223372036854775807] 24)).heap.size (w.alloc (.cells #[.int .i64 1, .int .i64 1, .int .i64 (hiI 9223372036854775807), .int .u64 (loI 9223372036854775807), .int .i64 9223372036854775807, .int .i64 9223372036854775807, .int .i64 1, .int .i64 1, .int .i64 (hiI 9223372036854775807), .int .u64 (loI 9223372036854775807), .int .i64 9223372036854775807, .int .i64 9223372036854775807] 24)) w' := by
  refine (joinAll_any _ 2 2 (w.heap.size + 1) twice _ (reds_new w #[.int .i64 1, .int .i64 1, .int .i64 (hiI 9223372036854775807), .int .u64 (loI 9223372036854775807), .int .i64 9223372036854775807, .int .i64 9223372036854775807, .int .i64 1, .int .i64 1, .int .i64 (hiI 9223372036854775807), .int .u64 (loI 9223372036854775807), .int .i64 9223372036854775807, .int .i64 9223372036854775807] _ 2 twice (by kernel_rfl) (by kernel_rfl)) (by simp) twice_ok (by omega)).mono ?_
  rintro e w' ⟨rfl, hb⟩
  exact ⟨by kernel_rfl, hb⟩
end Go.Proofs.Ytinaecmpigenoaa
