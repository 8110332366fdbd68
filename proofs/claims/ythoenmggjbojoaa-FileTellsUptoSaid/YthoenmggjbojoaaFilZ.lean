/-
  Layer 10: an operation's asking, the last: the count of refusals, and the power.
-/
import Derived.Test.YthoenmggjbojoaaFilY
namespace Go.Proofs.Ythoenmggjbojoaa
open Go.RowKit
set_option linter.unusedVariables false

theorem tick_wf {n : Int} (h : (Lit.int .i64 n).wf = true) : (Lit.int .i64 (tickN n)).wf = true := by
  have hb := wf_i64 h
  unfold tickN
  split
  · simp [Lit.wf, IntKind.min, IntKind.max, IntKind.bits, IntKind.signed]; omega
  · exact h
theorem lost_yes (g : Nat) (fault fuse : Int) (w : World) (hw3 : (Lit.int .i64 fault).wf = true) (hw2 : (Lit.int .i64 fuse).wf = true) (h3 : w.cell? ⟨g, 3, none⟩ = some (.int .i64 fault)) (f3 : w.frozen? ⟨g, 3, none⟩ = false) (h2 : w.cell? ⟨g, 2, none⟩ = some (.int .i64 fuse)) (f2 : w.frozen? ⟨g, 2, none⟩ = false) (hn : (fuse == 0) = false) :
    Calls Try.prog 57 #[.pointer (some ⟨g, 0, none⟩)] w fun e w' => e = .returned (.int .i64 0) ∧ (w.setCell ⟨g, 3, none⟩ (.int .i64 (tickN fault))).setCell ⟨g, 2, none⟩ (.int .i64 (tickN fuse)) = w' := by
  have T3 := Lib.hid (fun W => tick_any fault W hw3)
  have T2 := Lib.hid (fun W => tick_any fuse W hw2)
  generalize tickN fault = v3 at *
  generalize tickN fuse = v2 at *
  clear hw2 hw3
  go_enter Try.func57, Try.ntmps57
  go_wp2_with fail
  refine (T3.out _).mono ?_
  rintro e w1 ⟨rfl, rfl⟩
  go_wp2_with fail
  refine (T2.out _).mono ?_
  rintro e w1 ⟨rfl, rfl⟩
  go_wp2
  all_goals
    go_ret
    exact ⟨rfl, rfl⟩
theorem lost_no (g : Nat) (fault : Int) (b : Bool) (w : World) (hw3 : (Lit.int .i64 fault).wf = true) (h3 : w.cell? ⟨g, 3, none⟩ = some (.int .i64 fault)) (f3 : w.frozen? ⟨g, 3, none⟩ = false) (h2 : w.cell? ⟨g, 2, none⟩ = some (.int .i64 0)) (f2 : w.frozen? ⟨g, 2, none⟩ = false) (h4 : w.cell? ⟨g, 4, none⟩ = some (.bool b)) (f4 : w.frozen? ⟨g, 4, none⟩ = false) :
    Calls Try.prog 57 #[.pointer (some ⟨g, 0, none⟩)] w fun e w' => e = .returned (.int .i64 10) ∧ ((w.setCell ⟨g, 3, none⟩ (.int .i64 (tickN fault))).setCell ⟨g, 2, none⟩ (.int .i64 (-1))).setCell ⟨g, 4, none⟩ (.bool true) = w' := by
  have T3 := Lib.hid (fun W => tick_any fault W hw3)
  generalize tickN fault = v3 at *
  clear hw3
  go_enter Try.func57, Try.ntmps57
  go_wp2_with fail
  refine (T3.out _).mono ?_
  rintro e w1 ⟨rfl, rfl⟩
  go_wp2
  all_goals
    go_ret
    exact ⟨rfl, rfl⟩
end Go.Proofs.Ythoenmggjbojoaa
