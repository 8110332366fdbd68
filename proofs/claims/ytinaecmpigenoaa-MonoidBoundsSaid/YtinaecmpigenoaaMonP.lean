/-
  Package monoid: a sum as a number of 64 bits.
-/
import Derived.Test.YtinaecmpigenoaaMonK
import Derived.Test.YtinaecmpigenoaaMonR
namespace Go.Proofs.Ytinaecmpigenoaa
open Go.RowKit
attribute [local go_sem ↓] Go.wp_at_zero Go.wp_at_succ

theorem wrap_r64 (n : Int) : R64 (IntKind.i64.wrap n) := by rw [IntKind.wrap_i64]; unfold R64; omega
theorem wrap_lo (v : Int) (h : R64 v) : IntKind.i64.wrap (loI v) = v := by rw [IntKind.wrap_i64]; unfold R64 at h; unfold loI; omega
theorem halves_of (a b : Value) (w : World) : (Instr.field 75 (.agg #[a, b]) 0).run Try.prog w = .ok (.agg #[a, b]) w := by kernel_rfl
/-- The two results of small. -/
def smallV (v : Int) : Value := .tuple #[.int .i64 (IntKind.i64.wrap (loI v)), .bool (decide (v = IntKind.i64.wrap (loI v)))]
set_option maxRecDepth 20000 in
set_option maxHeartbeats 1000000 in
theorem small_any (v : Int) (w : World) (hv : R128 v) : Calls Try.prog 36 #[.agg #[.int .i64 (hiI v), .int .u64 (loI v)]] w fun e w' => e = .returned (smallV v) ∧ Below w.heap.size w w' := by
  have hb0 := (Below.refl w.heap.size w).alloc (Nat.le_refl _) (.cells #[.int .i64 (hiI v), .int .u64 (loI v)] 75)
  have hx64 := wrap_r64 (loI v)
  unfold smallV
  generalize hx : IntKind.i64.wrap (loI v) = x at *
  obtain ⟨W1, hW1⟩ : ∃ W1, w.alloc (.cells #[.int .i64 (hiI v), .int .u64 (loI v)] 75) = W1 := ⟨_, rfl⟩
  have c0 : ∀ W, Below W1.heap.size W1 W → W.cell? ⟨w.heap.size, 0, none⟩ = some (.int .i64 (hiI v)) := fun W h => new_later (by rw [hW1]; exact h) 0 rfl
  have c1 : ∀ W, Below W1.heap.size W1 W → W.cell? ⟨w.heap.size, 1, none⟩ = some (.int .u64 (loI v)) := fun W h => new_later (by rw [hW1]; exact h) 1 rfl
  have hb1 : Below w.heap.size w W1 := by rw [← hW1]; exact hb0
  have d0 := c0 W1 (Below.refl _ _)
  have d1 := c1 W1 (Below.refl _ _)
  clear hb0
  have hfl := fun W => halves_of (.int .i64 (hiI x)) (.int .u64 (loI x)) W
  have hinj := hl_inj v x hv (by unfold R64 at hx64; unfold R128; omega)
  by_cases a3 : hiI v = hiI x
  · have e3 : (hiI v == hiI x) = true := beq_iff_eq.2 a3
    by_cases a4 : loI v = loI x
    · have e4 : (loI v == loI x) = true := beq_iff_eq.2 a4
      rw [decide_eq_true (hinj.1 ⟨a3, a4⟩)]
      clear hinj a3 a4 hv
      go_enter Try.func36, Try.ntmps36
      go_wp2
      go_region_held3 (fun w' => Below W1.heap.size W1 w') (first | assumption | exact (Below.refl _ _).drew | (refine S_call ?_ ?_ ?_; assumption; assumption; rfl)) ((go_at_call 31; with_reducible refine (sumOf_agg x _ hx64).mono ?_; rintro e wB ⟨rfl, hbB⟩; have hSB := S_call hbB (by assumption) rfl))
      all_goals
        go_wp2
        exact bodyPost_ret (v := .tuple #[.int .i64 x, .bool true]) (by simp [results, Try.results36, go_sem]) rfl ⟨rfl, hb1.trans (Below.mono (B := W1.heap.size) (by assumption) hb1.size)⟩
    · have e4 : (loI v == loI x) = false := beq_no a4
      rw [decide_eq_false (fun h => a4 (hinj.2 h).2)]
      clear hinj a3 a4 hv
      go_enter Try.func36, Try.ntmps36
      go_wp2
      go_region_held3 (fun w' => Below W1.heap.size W1 w') (first | assumption | exact (Below.refl _ _).drew | (refine S_call ?_ ?_ ?_; assumption; assumption; rfl)) ((go_at_call 31; with_reducible refine (sumOf_agg x _ hx64).mono ?_; rintro e wB ⟨rfl, hbB⟩; have hSB := S_call hbB (by assumption) rfl))
      all_goals
        go_wp2
        exact bodyPost_ret (v := .tuple #[.int .i64 x, .bool false]) (by simp [results, Try.results36, go_sem]) rfl ⟨rfl, hb1.trans (Below.mono (B := W1.heap.size) (by assumption) hb1.size)⟩
  · have e3 : (hiI v == hiI x) = false := beq_no a3
    rw [decide_eq_false (fun h => a3 (hinj.2 h).1)]
    clear hinj a3 hv
    go_enter Try.func36, Try.ntmps36
    go_wp2
    go_region_held3 (fun w' => Below W1.heap.size W1 w') (first | assumption | exact (Below.refl _ _).drew | (refine S_call ?_ ?_ ?_; assumption; assumption; rfl)) ((go_at_call 31; with_reducible refine (sumOf_agg x _ hx64).mono ?_; rintro e wB ⟨rfl, hbB⟩; have hSB := S_call hbB (by assumption) rfl))
    all_goals
      go_wp2
      exact bodyPost_ret (v := .tuple #[.int .i64 x, .bool false]) (by simp [results, Try.results36, go_sem]) rfl ⟨rfl, hb1.trans (Below.mono (B := W1.heap.size) (by assumption) hb1.size)⟩
end Go.Proofs.Ytinaecmpigenoaa
