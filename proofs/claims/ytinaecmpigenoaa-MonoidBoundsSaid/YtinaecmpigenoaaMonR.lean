/-
  Layer 13: the reference's sums.
-/
import Derived.Test.YtinaecmpigenoaaMonV
namespace Go.Proofs.Ytinaecmpigenoaa
open Go.RowKit
attribute [local go_sem ↓] Go.wp_at_zero Go.wp_at_succ

set_option maxHeartbeats 1000000 in
theorem refOf_any (n : Int) (w : World) (h : R64 n) :
    Calls Try.prog 27 #[.int .i64 n] w fun e w' => e = .returned (.agg #[.int .i64 (hiI n), .int .u64 (loI n)]) ∧ Below w.heap.size w w' := by
  have hl := hl_of n h
  have hw : IntKind.u64.wrap n = n % 18446744073709551616 := IntKind.wrap_u64 n
  unfold R64 at h
  obtain ⟨h0, h1⟩ := h
  by_cases hn : n < 0
  · have hh : hiI n = -1 := by omega
    have Hr := Lib.hid (show (Value.agg #[.int .i64 (hiI n), .int .u64 (loI n)]) = .agg #[.int .i64 (-1), .int .u64 (n % 18446744073709551616)] by rw [hh, hl.2])
    clear hh hl
    go_enter Try.func27, Try.ntmps27
    go_wp2
    exact bodyPost_ret (v := .agg #[.int .i64 (-1), .int .u64 (n % 18446744073709551616)]) (by simp [results, Try.results27, go_sem]) rfl ⟨by rw [Hr.out], (Below.refl _ _).alloc (Nat.le_refl _) _⟩
  · have hh : hiI n = 0 := by omega
    have Hr := Lib.hid (show (Value.agg #[.int .i64 (hiI n), .int .u64 (loI n)]) = .agg #[.int .i64 0, .int .u64 n] by rw [hh, hl.2, Int.emod_eq_of_lt (by omega) (by omega)])
    clear hh hl hw
    go_enter Try.func27, Try.ntmps27
    go_wp2
    exact bodyPost_ret (v := .agg #[.int .i64 0, .int .u64 n]) (by simp [results, Try.results27, go_sem]) rfl ⟨by rw [Hr.out], (Below.refl _ _).alloc (Nat.le_refl _) _⟩

set_option maxHeartbeats 1000000 in
theorem whole_any (c i v le mo : Int) (w : World) :
    Calls Try.prog 26 #[.agg #[.int .i64 c, .int .i64 i, .int .i64 (hiI v), .int .u64 (loI v), .int .i64 le, .int .i64 mo]] w fun e w' => e = .returned (.agg #[.int .i64 (hiI v), .int .u64 (loI v)]) ∧ Below w.heap.size w w' := by
  go_enter Try.func26, Try.ntmps26
  go_wp2
  exact bodyPost_ret (v := .agg #[.int .i64 (hiI v), .int .u64 (loI v)]) (by simp [results, Try.results26, go_sem]) rfl ⟨rfl, ((Below.refl _ _).alloc (Nat.le_refl _) _).alloc (by simp) _⟩

set_option maxHeartbeats 1000000 in
theorem refAdd_any (a b : Int) (w : World) :
    Calls Try.prog 28 #[.agg #[.int .i64 (hiI a), .int .u64 (loI a)], .agg #[.int .i64 (hiI b), .int .u64 (loI b)]] w fun e w' => e = .returned (.agg #[.int .i64 (hiI (a + b)), .int .u64 (loI (a + b))]) ∧ Below w.heap.size w w' := by
  have hl := lo_add a b
  have hh := hi_add a b
  have hc := carry_ask a b
  rw [hc] at hh
  rw [← IntKind.wrap_u64] at hl
  obtain ⟨la0, la1⟩ := lo_bound a
  obtain ⟨lb0, lb1⟩ := lo_bound b
  obtain ⟨ha0, ha1⟩ := hi_bound a
  obtain ⟨hb0, hb1⟩ := hi_bound b
  have Hl := Lib.hid hl
  clear hc hl
  generalize hiI a = x1 at *
  generalize hiI b = x2 at *
  generalize loI a = y1 at *
  generalize loI b = y2 at *
  by_cases hq : 18446744073709551615 - y1 < y2
  · rw [if_pos hq] at hh
    have Hh := Lib.hid hh
    clear hh
    go_enter Try.func28, Try.ntmps28
    go_wp2
    refine bodyPost_ret (v := .agg #[.int .i64 (hiI (a + b)), .int .u64 (loI (a + b))]) ?_ rfl ⟨rfl, (((Below.refl _ _).alloc (Nat.le_refl _) _).alloc (by simp) _).alloc (by simp; omega) _⟩
    rw [← Hh.out, ← Hl.out]
    simp [results, Try.results28, go_sem]
  · rw [if_neg hq, Int.add_zero] at hh
    have hf : wrap64 (wrap64 (x1 + x2)) = wrap64 (x1 + x2) := by unfold wrap64; omega
    rw [hf] at hh
    have Hh := Lib.hid hh
    have Hf := Lib.hid hf
    clear hh hf
    go_enter Try.func28, Try.ntmps28
    go_wp2
    refine bodyPost_ret (v := .agg #[.int .i64 (hiI (a + b)), .int .u64 (loI (a + b))]) ?_ rfl ⟨rfl, (((Below.refl _ _).alloc (Nat.le_refl _) _).alloc (by simp) _).alloc (by simp; omega) _⟩
    rw [← Hh.out, ← Hl.out]
    simp [results, Try.results28, go_sem]
    exact ⟨Hf.out, by rw [IntKind.wrap_u64]; omega⟩

set_option maxHeartbeats 1000000 in
theorem refLess_any (a b : Int) (w : World) (ha : R128 a) (hb : R128 b) :
    Calls Try.prog 30 #[.agg #[.int .i64 (hiI a), .int .u64 (loI a)], .agg #[.int .i64 (hiI b), .int .u64 (loI b)]] w fun e w' => e = .returned (.bool (decide (a < b))) ∧ Below w.heap.size w w' := by
  have hl := hl_less a b ha hb
  have hbl := ((Below.refl w.heap.size w).alloc (Nat.le_refl _) (.cells #[.int .i64 (hiI a), .int .u64 (loI a)] 66)).alloc (by simp) (.cells #[.int .i64 (hiI b), .int .u64 (loI b)] 66)
  generalize hiI a = h1 at *
  generalize hiI b = h2 at *
  generalize loI a = l1 at *
  generalize loI b = l2 at *
  by_cases c2 : h1 = h2
  · subst c2
    by_cases c3 : l1 < l2
    · have Hr := Lib.hid (show decide (a < b) = true from decide_eq_true (hl.1 (.inr ⟨rfl, c3⟩)))
      have d3 : decide (l1 < l2) = true := decide_eq_true c3
      clear hl
      go_enter Try.func30, Try.ntmps30
      go_wp2
      go_ret
      exact ⟨by rw [Hr.out]; rfl, hbl⟩
    · have Hr := Lib.hid (show decide (a < b) = false from decide_eq_false (fun h => by rcases hl.2 h with h | ⟨_, h⟩ <;> omega))
      have d3 : decide (l1 < l2) = false := decide_eq_false c3
      clear hl
      go_enter Try.func30, Try.ntmps30
      go_wp2
      go_ret
      exact ⟨by rw [Hr.out]; rfl, hbl⟩
  · have d2 : (h1 != h2) = true := bne_iff_ne.2 c2
    have d2' : (h1 == h2) = false := beq_eq_false_iff_ne.2 c2
    by_cases c1 : h1 < h2
    · have Hr := Lib.hid (show decide (a < b) = true from decide_eq_true (hl.1 (.inl c1)))
      have d1 : decide (h1 < h2) = true := decide_eq_true c1
      clear hl c2
      go_enter Try.func30, Try.ntmps30
      go_wp2
      go_ret
      exact ⟨by rw [Hr.out]; rfl, hbl⟩
    · have Hr := Lib.hid (show decide (a < b) = false from decide_eq_false (fun h => by rcases hl.2 h with h | ⟨h, _⟩ <;> omega))
      have d1 : decide (h1 < h2) = false := decide_eq_false c1
      clear hl c2
      go_enter Try.func30, Try.ntmps30
      go_wp2
      go_ret
      exact ⟨by rw [Hr.out]; rfl, hbl⟩
end Go.Proofs.Ytinaecmpigenoaa
