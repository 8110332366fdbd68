/-
  Layer 10: an operation's askings, one by one: dark, refused.
-/
import Derived.Test.YthoenmggjbojoaaFilW
namespace Go.Proofs.Ythoenmggjbojoaa
open Go.RowKit
set_option linter.unusedVariables false

theorem dark_any (g : Nat) (b : Bool) (w : World) (h : w.cell? ⟨g, 4, none⟩ = some (.bool b)) : Calls Try.prog 54 #[.pointer (some ⟨g, 0, none⟩)] w fun e w' => e = .returned (.int .i64 (if b = true then 10 else 0)) ∧ w = w' := by
  cases b
  all_goals
    go_enter Try.func54, Try.ntmps54
    go_wp2
    all_goals
      go_ret
      exact ⟨rfl, rfl⟩
theorem refused_yes (g : Nat) (n : Int) (w : World) (h : w.cell? ⟨g, 3, none⟩ = some (.int .i64 n)) (hn : (n == 0) = false) : Calls Try.prog 56 #[.pointer (some ⟨g, 0, none⟩)] w fun e w' => e = .returned (.int .i64 0) ∧ w = w' := by
  go_enter Try.func56, Try.ntmps56
  go_wp2
  all_goals
    go_ret
    exact ⟨rfl, rfl⟩
theorem refused_no (g : Nat) (w : World) (h : w.cell? ⟨g, 3, none⟩ = some (.int .i64 0)) (hf : w.frozen? ⟨g, 3, none⟩ = false) : Calls Try.prog 56 #[.pointer (some ⟨g, 0, none⟩)] w fun e w' => e = .returned (.int .i64 9) ∧ w.setCell ⟨g, 3, none⟩ (.int .i64 (-1)) = w' := by
  go_enter Try.func56, Try.ntmps56
  go_wp2
  all_goals
    go_ret
    exact ⟨rfl, rfl⟩
end Go.Proofs.Ythoenmggjbojoaa
