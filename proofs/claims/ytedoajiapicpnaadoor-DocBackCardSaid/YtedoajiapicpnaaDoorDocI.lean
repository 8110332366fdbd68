/-
  Package doc and its reference: which metadata may be.
-/
import Derived.Test.YtedoajiapicpnaaDoorDocM
namespace Go.Proofs.YtedoajiapicpnaaDoor
open Go.RowKit
attribute [local go_sem ↓] Go.wp_at_zero Go.wp_at_succ

def infoV (g m s : Nat) (d : Bool) (a : Int) : Value := .agg #[.int .u32 (g : Int), .int .u32 (m : Int), .int .u64 (s : Int), .bool d, .int .i64 a]
def validB (g s : Nat) (d : Bool) (a : Int) : Bool := !(decide (g = 0) || decide (s = 0) || decide (1099511627776 < s)) && (if d then decide (a = 0) else decide (1 ≤ a) && decide (a < 524288))

theorem valid_cases (g s : Nat) (d : Bool) (a : Int) :
    (g = 0 ∧ validB g s d a = false) ∨ ((0 < g ∧ s = 0) ∧ validB g s d a = false) ∨ ((0 < g ∧ 1099511627776 < s) ∧ validB g s d a = false) ∨
    ((0 < g ∧ (1 ≤ s ∧ s ≤ 1099511627776) ∧ d = true ∧ a = 0) ∧ validB g s d a = true) ∨ ((0 < g ∧ (1 ≤ s ∧ s ≤ 1099511627776) ∧ d = true ∧ a ≠ 0) ∧ validB g s d a = false) ∨
    ((0 < g ∧ (1 ≤ s ∧ s ≤ 1099511627776) ∧ d = false ∧ a < 1) ∧ validB g s d a = false) ∨ ((0 < g ∧ (1 ≤ s ∧ s ≤ 1099511627776) ∧ d = false ∧ 1 ≤ a ∧ a < 524288) ∧ validB g s d a = true) ∨
    ((0 < g ∧ (1 ≤ s ∧ s ≤ 1099511627776) ∧ d = false ∧ 524288 ≤ a) ∧ validB g s d a = false) := by
  unfold validB
  cases d <;> simp <;> omega

set_option maxRecDepth 20000 in
set_option maxHeartbeats 1000000 in
theorem valid_any (g m s : Nat) (d : Bool) (a : Int) (w : World) :
    Calls Tryd.prog 43 #[infoV g m s d a] w fun e w' => e = .returned (.bool (validB g s d a)) ∧ Below w.heap.size w w' := by
  unfold infoV
  rcases valid_cases g s d a with ⟨h, hr⟩ | ⟨⟨h1, h⟩, hr⟩ | ⟨⟨h1, h⟩, hr⟩ | ⟨⟨h1, ⟨h2, h3⟩, rfl, rfl⟩, hr⟩ | ⟨⟨h1, ⟨h2, h3⟩, rfl, h⟩, hr⟩ | ⟨⟨h1, ⟨h2, h3⟩, rfl, h⟩, hr⟩ | ⟨⟨h1, ⟨h2, h3⟩, rfl, h, h4⟩, hr⟩ | ⟨⟨h1, ⟨h2, h3⟩, rfl, h⟩, hr⟩
  all_goals
    have Hr := Lib.hid hr
    clear hr
    try have z1 : ((g : Int) == 0) = false := beq_eq_false_iff_ne.2 (by omega)
    try have z2 : (a == 0) = false := beq_eq_false_iff_ne.2 (by omega)
    go_enter Tryd.func43, Tryd.ntmps43
    go_wp2
    go_ret
    exact ⟨by rw [Hr.out]; first | rfl | (simp; done) | (simp; omega), (Below.refl _ _).alloc (Nat.le_refl _) _⟩
set_option maxRecDepth 20000 in
set_option maxHeartbeats 1000000 in
theorem may_any (g m s : Nat) (d : Bool) (a : Int) (w : World) :
    Calls Tryd.prog 24 #[infoV g m s d a] w fun e w' => e = .returned (.bool (validB g s d a)) ∧ Below w.heap.size w w' := by
  unfold infoV
  rcases valid_cases g s d a with ⟨h, hr⟩ | ⟨⟨h1, h⟩, hr⟩ | ⟨⟨h1, h⟩, hr⟩ | ⟨⟨h1, ⟨h2, h3⟩, rfl, rfl⟩, hr⟩ | ⟨⟨h1, ⟨h2, h3⟩, rfl, h⟩, hr⟩ | ⟨⟨h1, ⟨h2, h3⟩, rfl, h⟩, hr⟩ | ⟨⟨h1, ⟨h2, h3⟩, rfl, h, h4⟩, hr⟩ | ⟨⟨h1, ⟨h2, h3⟩, rfl, h⟩, hr⟩
  all_goals
    have Hr := Lib.hid hr
    clear hr
    try have z1 : ((g : Int) == 0) = false := beq_eq_false_iff_ne.2 (by omega)
    try have z3 : ((s : Int) == 0) = false := beq_eq_false_iff_ne.2 (by omega)
    try have z2 : (a == 0) = false := beq_eq_false_iff_ne.2 (by omega)
    go_enter Tryd.func24, Tryd.ntmps24
    go_wp2
    go_ret
    exact ⟨by rw [Hr.out]; first | rfl | (simp; done) | (simp; omega), (Below.refl _ _).alloc (Nat.le_refl _) _⟩
end Go.Proofs.YtedoajiapicpnaaDoor
