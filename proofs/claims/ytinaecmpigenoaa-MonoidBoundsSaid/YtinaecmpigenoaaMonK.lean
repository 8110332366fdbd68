/-
  Package monoid: the kinds.
-/
import Derived.Test.YtinaecmpigenoaaMonW
import Derived.RegionTactic
import Derived.Deep.RegionWith
import Derived.Laws.EntriesVeiled
import Derived.Deep.WholeRow
import Derived.Deep.WholeRow
namespace Go.Proofs.Ytinaecmpigenoaa
open Go.RowKit
attribute [local go_sem ↓] Go.wp_at_zero Go.wp_at_succ

/-- Is there a kind of that number? -/
def knownB (k : Int) : Bool := decide (1 ≤ k ∧ k ≤ 5)
theorem known_any (k : Int) (w : World) : Calls Try.prog 33 #[.int .i64 k] w fun e w' => e = .returned (.bool (knownB k)) ∧ Below w.heap.size w w' := by
  unfold knownB
  by_cases h1 : 1 ≤ k
  · by_cases h2 : k ≤ 5
    · rw [decide_eq_true ⟨h1, h2⟩]
      go_enter Try.func33, Try.ntmps33
      go_wp2
      go_ret
      exact ⟨rfl, Below.refl _ _⟩
    · rw [decide_eq_false (fun h => h2 h.2)]
      go_enter Try.func33, Try.ntmps33
      go_wp2
      go_ret
      exact ⟨rfl, Below.refl _ _⟩
  · rw [decide_eq_false (fun h => h1 h.1)]
    go_enter Try.func33, Try.ntmps33
    go_wp2
    go_ret
    exact ⟨rfl, Below.refl _ _⟩

/-- A number as a value. -/
def numV (n : Int) : Value := .agg #[.int .i64 3, .int .i64 n, .string ⟨#[]⟩, .slice none 0 0, .slice none 0 0]
theorem number_any (n : Int) (w : World) : Calls Try.prog 44 #[.int .i64 n] w fun e w' => e = .returned (numV n) ∧ Below w.heap.size w w' := by
  go_enter Try.func44, Try.ntmps44
  go_wp2
  exact bodyPost_ret (v := numV n) (by simp [results, Try.results44, go_sem]; rfl) rfl ⟨rfl, (Below.refl _ _).alloc (Nat.le_refl _) _⟩

theorem kinds_any (w : World) : Calls Try.prog 34 #[] w fun e w' => e = .returned (.agg #[.string ⟨#[]⟩, .bool false, .nilFunc, .string ⟨#[95, 99, 111, 117, 110, 116]⟩, .bool false, .func (.func 43) #[] #[], .string ⟨#[95, 115, 117, 109]⟩, .bool true, .func (.func 45) #[] #[], .string ⟨#[95, 109, 105, 110]⟩, .bool false, .func (.func 46) #[] #[], .string ⟨#[95, 109, 97, 120]⟩, .bool false, .func (.func 48) #[] #[], .string ⟨#[95, 115, 116, 97, 116, 115]⟩, .bool true, .func (.func 49) #[] #[]]) ∧ Below w.heap.size w w' := by
  have hi : (Try.prog.info? 81).map (·.size) = some 18 := by kernel_rfl
  have hsc := run_storeCells_new (P := Try.prog) w 81 #[.string ⟨#[]⟩, .bool false, .nilFunc, .string ⟨#[]⟩, .bool false, .nilFunc, .string ⟨#[]⟩, .bool false, .nilFunc, .string ⟨#[]⟩, .bool false, .nilFunc, .string ⟨#[]⟩, .bool false, .nilFunc, .string ⟨#[]⟩, .bool false, .nilFunc] #[.string ⟨#[]⟩, .bool false, .nilFunc, .string ⟨#[95, 99, 111, 117, 110, 116]⟩, .bool false, .func (.func 43) #[] #[], .string ⟨#[95, 115, 117, 109]⟩, .bool true, .func (.func 45) #[] #[], .string ⟨#[95, 109, 105, 110]⟩, .bool false, .func (.func 46) #[] #[], .string ⟨#[95, 109, 97, 120]⟩, .bool false, .func (.func 48) #[] #[], .string ⟨#[95, 115, 116, 97, 116, 115]⟩, .bool true, .func (.func 49) #[] #[]] hi rfl (by simp [Value.oneCell'])
  have hu : Try.prog.underlying 81 = some (.array 6 80) := by kernel_rfl
  go_enter Try.func34, Try.ntmps34
  go_wp2
  refine bodyPost_ret (v := .agg #[.string ⟨#[]⟩, .bool false, .nilFunc, .string ⟨#[95, 99, 111, 117, 110, 116]⟩, .bool false, .func (.func 43) #[] #[], .string ⟨#[95, 115, 117, 109]⟩, .bool true, .func (.func 45) #[] #[], .string ⟨#[95, 109, 105, 110]⟩, .bool false, .func (.func 46) #[] #[], .string ⟨#[95, 109, 97, 120]⟩, .bool false, .func (.func 48) #[] #[], .string ⟨#[95, 115, 116, 97, 116, 115]⟩, .bool true, .func (.func 49) #[] #[]]) ?_ rfl ⟨rfl, (Below.refl _ _).alloc (Nat.le_refl _) _⟩
  exact results_cell_row (P := Try.prog) (p := 0) (ty := 81) rfl _ _ w.heap.size 81 _ (0, 0) _ rfl (heap_alloc_last w _) hu rfl hi
end Go.Proofs.Ytinaecmpigenoaa
