/-
  Layer 10: tick, a fresh file, New.
-/
import Derived.Test.YthoenmggjbojoaaFilV
import Derived.Test.YthoenmggjbojoaaFr
namespace Go.Proofs.Ythoenmggjbojoaa
open Go.RowKit
set_option linter.unusedVariables false

def tickN (n : Int) : Int := if 0 < n then n - 1 else n
theorem tick_any (n : Int) (w : World) (hn : (Lit.int .i64 n).wf = true) : Calls Try.prog 59 #[.int .i64 n] w fun e w' => e = .returned (.int .i64 (tickN n)) ∧ w = w' := by
  have hb := wf_i64 hn
  clear hn
  by_cases h : 0 < n
  · have e1 : IntKind.i64.wrap (n - 1) = n - 1 := by rw [IntKind.wrap_i64]; omega
    have e2 : wrap64 (n - 1) = n - 1 := by unfold wrap64; omega
    rw [show tickN n = n - 1 from if_pos h]
    clear hb
    go_enter Try.func59, Try.ntmps59
    go_wp2
    all_goals
      go_ret
      exact ⟨by first | rfl | simp [*], rfl⟩
  · rw [show tickN n = n from if_neg h]
    clear hb
    go_enter Try.func59, Try.ntmps59
    go_wp2
    all_goals
      go_ret
      exact ⟨rfl, rfl⟩
theorem fresh_any (A : Option Addr) (n c : Nat) (w : World) : Calls Try.prog 32 #[.slice A n c] w fun e w' => e = .returned (.agg #[.slice A n c, .slice none 0 0, .int .i64 (-1), .int .i64 (-1), .bool false]) ∧ Below w.heap.size w w' := by
  go_enter Try.func32, Try.ntmps32
  go_wp2
  refine bodyPost_ret (v := .agg #[.slice A n c, .slice none 0 0, .int .i64 (-1), .int .i64 (-1), .bool false]) ?_ rfl ⟨rfl, bel_alloc (Below.refl _ _) _⟩
  simp [results, Try.results32, go_sem, *]
/-- Five cells of a file's variable, and that they may be written. -/
def FVar (W : World) (g : Nat) (a b c d e : Value) : Prop :=
  (W.cell? ⟨g, 0, none⟩ = some a ∧ W.cell? ⟨g, 1, none⟩ = some b ∧ W.cell? ⟨g, 2, none⟩ = some c ∧ W.cell? ⟨g, 3, none⟩ = some d ∧ W.cell? ⟨g, 4, none⟩ = some e) ∧
  (W.frozen? ⟨g, 0, none⟩ = false ∧ W.frozen? ⟨g, 1, none⟩ = false ∧ W.frozen? ⟨g, 2, none⟩ = false ∧ W.frozen? ⟨g, 3, none⟩ = false ∧ W.frozen? ⟨g, 4, none⟩ = false)
theorem FVar.new (w : World) (a b c d e : Value) (t : TypeId) : FVar (w.alloc (.cells #[a, b, c, d, e] t)) w.heap.size a b c d e :=
  ⟨⟨by simp [go_sem], by simp [go_sem], by simp [go_sem], by simp [go_sem], by simp [go_sem]⟩, by simp [go_sem], by simp [go_sem], by simp [go_sem], by simp [go_sem], by simp [go_sem]⟩
theorem FVar.later {W W' : World} {g : Nat} {a b c d e : Value} (h : FVar W g a b c d e) (hb : Below W.heap.size W W') : FVar W' g a b c d e := by
  obtain ⟨⟨h0, h1, h2, h3, h4⟩, k0, k1, k2, k3, k4⟩ := h
  exact ⟨⟨kept_later hb h0, kept_later hb h1, kept_later hb h2, kept_later hb h3, kept_later hb h4⟩, froz_later hb h0 k0, froz_later hb h1 k1, froz_later hb h2 k2, froz_later hb h3 k3, froz_later hb h4 k4⟩
theorem fbelow_set5 {B g : Nat} {w w1 : World} {a b c d e : Value} (h : Below B w w1) (hg : B ≤ g) : Below B w (((((w1.setCell ⟨g, 0, none⟩ a).setCell ⟨g, 1, none⟩ b).setCell ⟨g, 2, none⟩ c).setCell ⟨g, 3, none⟩ d).setCell ⟨g, 4, none⟩ e) :=
  ((((h.setCell hg a).setCell hg b).setCell hg c).setCell hg d).setCell hg e
set_option maxRecDepth 20000 in
theorem newF_any (w : World) : Calls Try.prog 10 #[] w fun e w' => e = .returned (.agg #[.slice none 0 0, .slice none 0 0, .int .i64 (-1), .int .i64 (-1), .bool false]) ∧ Below w.heap.size w w' := by
  have hb1 := bel_alloc (Below.refl w.heap.size w) (.cells #[.slice none 0 0, .slice none 0 0, .int .i64 0, .int .i64 0, .bool false] 25)
  have HV := FVar.new w (.slice none 0 0) (.slice none 0 0) (.int .i64 0) (.int .i64 0) (.bool false) 25
  go_enter Try.func10, Try.ntmps10
  go_wp2_with fail
  refine (fresh_any none 0 0 _).mono ?_
  rintro e w1 ⟨rfl, hb2⟩
  obtain ⟨⟨e0, e1, e2, e3, e4⟩, f0, f1, f2, f3, f4⟩ := HV.later hb2
  have hb3 := bel_next hb1 hb2
  clear HV hb1 hb2
  go_wp2
  refine bodyPost_ret (v := .agg #[.slice none 0 0, .slice none 0 0, .int .i64 (-1), .int .i64 (-1), .bool false]) ?_ rfl ⟨rfl, fbelow_set5 hb3 (Nat.le_refl _)⟩
  simp [results, Try.results10, go_sem, *]
end Go.Proofs.Ythoenmggjbojoaa
