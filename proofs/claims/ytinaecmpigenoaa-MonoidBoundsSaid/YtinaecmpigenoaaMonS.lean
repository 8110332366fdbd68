/-
  Package monoid: sums.
-/
import Derived.Test.YtinaecmpigenoaaChecked
import Derived.Test.YtinaecmpigenoaaW
import Derived.Deep.RegionHeld3
import Derived.Deep.QuietTactic
import Derived.BigQuiet
import Derived.Test.YtinaecmpigenoaaMonM
import Derived.Lib.Hide
import Derived.WalkSpells
import Derived.WalkLawsBesides
import Derived.Laws.Externs
import Derived.Outline
import Derived.BigRegion
import Derived.Deep.DrawnRows
import Derived.Lib.Mul64
import Derived.Shelf.Bits.Mul64
namespace Go.Proofs.Ytinaecmpigenoaa
open Go.RowKit
attribute [local go_sem ↓] Go.wp_at_zero Go.wp_at_succ

def sumV (a : Int) : Value := .agg #[.int .i64 (hiI a), .int .u64 (loI a)]

set_option maxHeartbeats 1000000 in
theorem sumOf_any (n : Int) (w : World) (h : R64 n) :
    Calls Try.prog 31 #[.int .i64 n] w fun e w' => e = .returned (sumV n) ∧ Below w.heap.size w w' := by
  have Hr := Lib.hid (hl_of n h)
  unfold R64 at h
  obtain ⟨h0, h1⟩ := h
  go_enter Try.func31, Try.ntmps31
  go_wp2
  refine bodyPost_ret (v := sumV n) ?_ rfl ⟨rfl, (Below.refl _ _).alloc (Nat.le_refl _) _⟩
  unfold sumV
  rw [Hr.out.1, Hr.out.2, ← IntKind.wrap_u64]
  simp [results, Try.results31, go_sem]

theorem run_add (x y : Int) (hx : 0 ≤ x) (hy : 0 ≤ y) (w : World) :
    (callFunc 53 #[.int .u64 x, .int .u64 y, .int .u64 0]).run Try.prog w =
      .ok (.value (.tuple #[.int .u64 ((x + y) % 18446744073709551616), .int .u64 ((x + y) / 18446744073709551616)])) w := by
  rw [run_callFunc_extern Try.func53 (by kernel_rfl) (by kernel_rfl) (by kernel_rfl) (e := add64Entry) (by kernel_rfl), run_add64 x y 0 hx hy (by omega) (by omega)]
  simp only [Result.andThen, Int.add_zero]

set_option maxHeartbeats 1000000 in
theorem plus_any (a b : Int) (w : World) :
    Calls Try.prog 42 #[sumV a, sumV b] w fun e w' => e = .returned (sumV (a + b)) ∧ Below w.heap.size w w' := by
  have Hl := Lib.hid (lo_add a b)
  have Hh := Lib.hid (hi_add a b)
  obtain ⟨la0, la1⟩ := lo_bound a
  obtain ⟨lb0, lb1⟩ := lo_bound b
  obtain ⟨ha0, ha1⟩ := hi_bound a
  obtain ⟨hb0, hb1⟩ := hi_bound b
  have hadd := run_add (loI a) (loI b) la0 lb0
  have hc0 : 0 ≤ (loI a + loI b) / 18446744073709551616 := by omega
  have hc1 : (loI a + loI b) / 18446744073709551616 ≤ 1 := by omega
  unfold sumV
  go_enter Try.func42, Try.ntmps42
  go_wp2
  refine bodyPost_ret (v := .agg #[.int .i64 (hiI (a + b)), .int .u64 (loI (a + b))]) ?_ rfl ⟨rfl, (((Below.refl _ _).alloc (Nat.le_refl _) _).alloc (by simp) _).alloc (by simp; omega) _⟩
  rw [Hh.out, Hl.out]
  simp [results, Try.results42, go_sem]

set_option maxHeartbeats 1000000 in
theorem mul64_nat (x y : Nat) (hx : x < 18446744073709551616) (hy : y < 18446744073709551616) (w : World) :
    Calls Try.prog 55 #[.int .u64 (x : Int), .int .u64 (y : Int)] w fun e w' => e = .returned (.tuple #[.int .u64 ((x * y / 18446744073709551616 : Nat) : Int), .int .u64 ((x * y % 18446744073709551616 : Nat) : Int)]) ∧ w = w' := by
  obtain ⟨bd, bt, bw, hhi⟩ := Lib.mul64_hi x y hx hy
  have ba := Lib.half_mul_le (a := x / 4294967296) (b := y / 4294967296) (by omega) (by omega)
  have bb := Lib.half_mul_le (a := x / 4294967296) (b := y % 4294967296) (by omega) (by omega)
  have bc := Lib.half_mul_le (a := x % 4294967296) (b := y / 4294967296) (by omega) (by omega)
  have ba' : x / 4294967296 * (y / 4294967296) < 18446744073709551616 := by omega
  have bb' : x / 4294967296 * (y % 4294967296) < 18446744073709551616 := by omega
  have bc' : x % 4294967296 * (y / 4294967296) < 18446744073709551616 := by omega
  have bh1 : x / 4294967296 * (y / 4294967296) + (x / 4294967296 * (y % 4294967296) + x % 4294967296 * (y % 4294967296) / 4294967296) / 4294967296 < 18446744073709551616 := by omega
  have bh : x / 4294967296 * (y / 4294967296) + (x / 4294967296 * (y % 4294967296) + x % 4294967296 * (y % 4294967296) / 4294967296) / 4294967296 + ((x / 4294967296 * (y % 4294967296) + x % 4294967296 * (y % 4294967296) / 4294967296) % 4294967296 + x % 4294967296 * (y / 4294967296)) / 4294967296 < 18446744073709551616 := by omega
  go_enter Try.func55, Try.ntmps55
  go_wp2
  simp only [Go.Proofs.Mul64.maskN x hx, Go.Proofs.Mul64.maskN y hy, Go.Proofs.Mul64.divN, Go.Proofs.Mul64.mulN, Go.Proofs.Mul64.addN, Go.Proofs.Mul64.wrapN _ bd, Go.Proofs.Mul64.wrapN _ bb', Go.Proofs.Mul64.wrapN _ bt, Go.Proofs.Mul64.maskN _ bt, Go.Proofs.Mul64.wrapN _ bc', Go.Proofs.Mul64.wrapN _ bw, Go.Proofs.Mul64.wrapN _ ba', Go.Proofs.Mul64.wrapN _ bh1, Go.Proofs.Mul64.wrapN _ bh, Go.Proofs.Mul64.wrapM (x * y)]
  rw [hhi]
  go_ret2
  exact ⟨rfl, rfl⟩
theorem mul64_any (x y : Int) (hx : 0 ≤ x ∧ x < 18446744073709551616) (hy : 0 ≤ y ∧ y < 18446744073709551616) (w : World) :
    Calls Try.prog 55 #[.int .u64 x, .int .u64 y] w fun e w' => e = .returned (.tuple #[.int .u64 (x * y / 18446744073709551616), .int .u64 (x * y % 18446744073709551616)]) ∧ w = w' := by
  obtain ⟨a, rfl⟩ := Int.eq_ofNat_of_zero_le hx.1
  obtain ⟨b, rfl⟩ := Int.eq_ofNat_of_zero_le hy.1
  refine (mul64_nat a b (by omega) (by omega) w).mono fun e w' h => ⟨h.1.trans ?_, h.2⟩
  rw [← Int.natCast_mul]
  rfl

set_option maxHeartbeats 1000000 in
theorem product_any (n t : Int) (w : World) (h : R64 n) (t0 : 0 ≤ t) (t1 : t ≤ 1073741824) :
    Calls Try.prog 51 #[.int .i64 n, .int .i64 t] w fun e w' => e = .returned (sumV (n * t)) ∧ Below w.heap.size w w' := by
  have Hl := Lib.hid (mul_lo n t)
  have Hh := Lib.hid (mul_hi n t h)
  have hw : IntKind.u64.wrap n = n % 18446744073709551616 := IntKind.wrap_u64 n
  unfold R64 at h
  obtain ⟨h0, h1⟩ := h
  obtain ⟨u, hu⟩ : ∃ u, n % 18446744073709551616 = u := ⟨_, rfl⟩
  have u0 : 0 ≤ u := by omega
  have u1 : u < 18446744073709551616 := by omega
  rw [hu] at hw Hl Hh
  clear hu
  have hp0 : 0 ≤ u * t := Int.mul_nonneg u0 t0
  have hp1 : u * t ≤ 18446744073709551615 * t := Int.mul_le_mul_of_nonneg_right (by omega) t0
  obtain ⟨q, hq⟩ : ∃ q, u * t / 18446744073709551616 = q := ⟨_, rfl⟩
  obtain ⟨r, hr⟩ : ∃ r, u * t % 18446744073709551616 = r := ⟨_, rfl⟩
  have q0 : 0 ≤ q := by omega
  have q1 : q ≤ 1073741824 := by omega
  have Hq := Lib.hid hq
  have Hr := Lib.hid hr
  rw [hr] at Hl
  rw [hq] at Hh
  clear hq hr hp0 hp1
  by_cases hn : n < 0
  · rw [if_pos hn] at Hh
    go_enter Try.func51, Try.ntmps51
    go_wp2_with fail
    refine (mul64_any u t ⟨u0, u1⟩ ⟨t0, by omega⟩ _).mono ?_
    rintro e w1 ⟨rfl, rfl⟩
    rw [Hq.out, Hr.out]
    go_wp2
    refine bodyPost_ret (v := .agg #[.int .i64 (q - t), .int .u64 r]) (by simp [results, Try.results51, go_sem]) rfl ⟨?_, ((Below.refl _ _).alloc (Nat.le_refl _) _).alloc (by simp) _⟩
    unfold sumV
    rw [← Hh.out, ← Hl.out, IntWalk.wrap64_in q ⟨by omega, by omega⟩, IntWalk.wrap64_in (q - t) ⟨by omega, by omega⟩]
  · rw [if_neg hn] at Hh
    go_enter Try.func51, Try.ntmps51
    go_wp2_with fail
    refine (mul64_any u t ⟨u0, u1⟩ ⟨t0, by omega⟩ _).mono ?_
    rintro e w1 ⟨rfl, rfl⟩
    rw [Hq.out, Hr.out]
    go_wp2
    refine bodyPost_ret (v := .agg #[.int .i64 q, .int .u64 r]) (by simp [results, Try.results51, go_sem]) rfl ⟨?_, ((Below.refl _ _).alloc (Nat.le_refl _) _).alloc (by simp) _⟩
    unfold sumV
    rw [← Hh.out, ← Hl.out, Int.sub_zero, IntWalk.wrap64_in q ⟨by omega, by omega⟩, IntWalk.wrap64_in q ⟨by omega, by omega⟩]

set_option maxHeartbeats 1000000 in
theorem less_any (a b : Int) (w : World) (ha : R128 a) (hb : R128 b) :
    Calls Try.prog 52 #[sumV a, sumV b] w fun e w' => e = .returned (.bool (decide (a < b))) ∧ Below w.heap.size w w' := by
  have hl := hl_less a b ha hb
  have hbl := ((Below.refl w.heap.size w).alloc (Nat.le_refl _) (.cells #[.int .i64 (hiI a), .int .u64 (loI a)] 73)).alloc (by simp) (.cells #[.int .i64 (hiI b), .int .u64 (loI b)] 73)
  unfold sumV
  generalize hiI a = h1 at *
  generalize hiI b = h2 at *
  generalize loI a = l1 at *
  generalize loI b = l2 at *
  by_cases c1 : h1 < h2
  · have Hr := Lib.hid (show decide (a < b) = true from decide_eq_true (hl.1 (.inl c1)))
    have d1 : decide (h1 < h2) = true := decide_eq_true c1
    clear hl
    go_enter Try.func52, Try.ntmps52
    go_wp2
    go_ret
    exact ⟨by rw [Hr.out]; rfl, hbl⟩
  · have d1 : decide (h1 < h2) = false := decide_eq_false c1
    by_cases c2 : h1 = h2
    · subst c2
      have d2 : decide (h1 < h1) = false := decide_eq_false (by omega)
      by_cases c3 : l1 < l2
      · have Hr := Lib.hid (show decide (a < b) = true from decide_eq_true (hl.1 (.inr ⟨rfl, c3⟩)))
        have d3 : decide (l1 < l2) = true := decide_eq_true c3
        clear hl c1 d1
        go_enter Try.func52, Try.ntmps52
        go_wp2
        go_ret
        exact ⟨by rw [Hr.out]; rfl, hbl⟩
      · have Hr := Lib.hid (show decide (a < b) = false from decide_eq_false (fun h => by rcases hl.2 h with h | ⟨_, h⟩ <;> omega))
        have d3 : decide (l1 < l2) = false := decide_eq_false c3
        clear hl c1 d1
        go_enter Try.func52, Try.ntmps52
        go_wp2
        go_ret
        exact ⟨by rw [Hr.out]; rfl, hbl⟩
    · have Hr := Lib.hid (show decide (a < b) = false from decide_eq_false (fun h => by rcases hl.2 h with h | ⟨h, _⟩ <;> omega))
      have d2 : (h1 == h2) = false := beq_eq_false_iff_ne.2 c2
      clear hl
      go_enter Try.func52, Try.ntmps52
      go_wp2
      go_ret
      exact ⟨by rw [Hr.out]; rfl, hbl⟩

/-- A reduction. -/
def redV (c i v le mo : Int) : Value := .agg #[.int .i64 c, .int .i64 i, .int .i64 (hiI v), .int .u64 (loI v), .int .i64 le, .int .i64 mo]

set_option maxHeartbeats 1000000 in
theorem total_any (c i v le mo : Int) (w : World) :
    Calls Try.prog 35 #[redV c i v le mo] w fun e w' => e = .returned (sumV v) ∧ Below w.heap.size w w' := by
  unfold redV
  go_enter Try.func35, Try.ntmps35
  go_wp2
  exact bodyPost_ret (v := .agg #[.int .i64 (hiI v), .int .u64 (loI v)]) (by simp [results, Try.results35, go_sem]) rfl ⟨rfl, ((Below.refl _ _).alloc (Nat.le_refl _) _).alloc (by simp) _⟩

end Go.Proofs.Ytinaecmpigenoaa
