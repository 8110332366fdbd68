/-
  Numbers of 128 bits as two halves. No program in sight.
-/
import Derived.WalkKit
namespace Go.Proofs.Ytinaecmpigenoaa
open Go.RowKit

/-- The halves of a number. -/
def hiI (v : Int) : Int := wrap64 (v / 18446744073709551616)
def loI (v : Int) : Int := v % 18446744073709551616
def R128 (v : Int) : Prop := -170141183460469231731687303715884105728 ≤ v ∧ v < 170141183460469231731687303715884105728
def R64 (n : Int) : Prop := -9223372036854775808 ≤ n ∧ n < 9223372036854775808
theorem lo_bound (v : Int) : 0 ≤ loI v ∧ loI v < 18446744073709551616 := by unfold loI; omega
theorem hi_bound (v : Int) : R64 (hiI v) := by unfold R64 hiI wrap64; omega
theorem hi_in (v : Int) (h : R128 v) : hiI v = v / 18446744073709551616 := by unfold R128 at h; unfold hiI wrap64; omega
theorem hl_inj (a b : Int) (ha : R128 a) (hb : R128 b) : (hiI a = hiI b ∧ loI a = loI b) ↔ a = b := by
  rw [hi_in a ha, hi_in b hb]
  unfold loI
  omega
theorem hl_less (a b : Int) (ha : R128 a) (hb : R128 b) : (hiI a < hiI b ∨ (hiI a = hiI b ∧ loI a < loI b)) ↔ a < b := by
  rw [hi_in a ha, hi_in b hb]
  unfold loI
  omega
theorem hl_of (n : Int) (h : R64 n) : hiI n = n / 9223372036854775808 ∧ loI n = n % 18446744073709551616 := by
  unfold R64 at h
  unfold hiI loI wrap64
  omega
/-- Halves that came in. -/
theorem hl_mk (h l : Int) (hh : R64 h) (hl : 0 ≤ l ∧ l < 18446744073709551616) : R128 (h * 18446744073709551616 + l) ∧ hiI (h * 18446744073709551616 + l) = h ∧ loI (h * 18446744073709551616 + l) = l := by
  unfold R64 at hh
  unfold R128 hiI loI wrap64
  omega
theorem hl_zero : hiI 0 = 0 ∧ loI 0 = 0 := by unfold hiI loI wrap64; decide
theorem lo_add (a b : Int) : (loI a + loI b) % 18446744073709551616 = loI (a + b) := by unfold loI; omega
theorem hi_add (a b : Int) : wrap64 (wrap64 (hiI a + hiI b) + (loI a + loI b) / 18446744073709551616) = hiI (a + b) := by
  unfold hiI loI wrap64
  omega
/-- The carry, asked of the lower halves. -/
theorem carry_ask (a b : Int) : (loI a + loI b) / 18446744073709551616 = if 18446744073709551615 - loI a < loI b then 1 else 0 := by
  have h1 := lo_bound a
  have h2 := lo_bound b
  split <;> omega
/-- The product of the unsigned readings; a negative number was read as one greater by 2^64. -/
theorem mul_lo (n t : Int) : (n % 18446744073709551616 * t) % 18446744073709551616 = loI (n * t) := by
  unfold loI
  rw [Int.mul_emod, Int.emod_emod_of_dvd _ (Int.dvd_refl _), ← Int.mul_emod]
theorem mul_hi (n t : Int) (hn : R64 n) : wrap64 (wrap64 ((n % 18446744073709551616 * t) / 18446744073709551616) - (if n < 0 then t else 0)) = hiI (n * t) := by
  unfold R64 at hn
  by_cases h : n < 0
  · rw [if_pos h, show n % 18446744073709551616 = n + 18446744073709551616 by omega, Int.add_mul]
    unfold hiI wrap64
    generalize n * t = p
    omega
  · rw [if_neg h, show n % 18446744073709551616 = n by omega]
    unfold hiI wrap64
    generalize n * t = p
    omega

/-- A reduction that may be: count, numbers, sum, least, greatest. -/
def validB (c i v le mo : Int) : Bool :=
  decide (0 ≤ c ∧ c ≤ 1073741824 ∧ 0 ≤ i ∧ i ≤ c) &&
    (if i = 0 then decide (v = 0 ∧ le = 0 ∧ mo = 0) else if i = 1 then decide (le = mo ∧ v = le) else decide (le ≤ mo) && (decide (le + mo + le * (i - 2) ≤ v) && decide (v ≤ le + mo + mo * (i - 2))))
theorem valid_cases (c i v le mo : Int) : (c < 0 ∧ validB c i v le mo = false) ∨ ((0 ≤ c ∧ 1073741824 < c) ∧ validB c i v le mo = false) ∨ (((0 ≤ c ∧ c ≤ 1073741824) ∧ i < 0) ∧ validB c i v le mo = false) ∨
    (((0 ≤ c ∧ c ≤ 1073741824) ∧ 0 ≤ i ∧ c < i) ∧ validB c i v le mo = false) ∨
    (((0 ≤ c ∧ c ≤ 1073741824) ∧ i = 0) ∧ validB c i v le mo = decide (v = 0 ∧ le = 0 ∧ mo = 0)) ∨
    (((0 ≤ c ∧ c ≤ 1073741824) ∧ 1 ≤ c ∧ i = 1) ∧ validB c i v le mo = decide (le = mo ∧ v = le)) ∨
    (((0 ≤ c ∧ c ≤ 1073741824) ∧ (2 ≤ i ∧ i ≤ c)) ∧ validB c i v le mo = (decide (le ≤ mo) && (decide (le + mo + le * (i - 2) ≤ v) && decide (v ≤ le + mo + mo * (i - 2))))) := by
  unfold validB
  by_cases h1 : c < 0
  · exact .inl ⟨h1, by rw [decide_eq_false (by omega)]; rfl⟩
  · refine .inr ?_
    by_cases h2 : 1073741824 < c
    · exact .inl ⟨⟨by omega, h2⟩, by rw [decide_eq_false (by omega)]; rfl⟩
    · refine .inr ?_
      by_cases h3 : i < 0
      · exact .inl ⟨⟨⟨by omega, by omega⟩, h3⟩, by rw [decide_eq_false (by omega)]; rfl⟩
      · refine .inr ?_
        by_cases h4 : c < i
        · exact .inl ⟨⟨⟨by omega, by omega⟩, by omega, h4⟩, by rw [decide_eq_false (by omega)]; rfl⟩
        · refine .inr ?_
          rw [decide_eq_true (by omega), Bool.true_and]
          by_cases h5 : i = 0
          · exact .inl ⟨⟨⟨by omega, by omega⟩, h5⟩, by rw [if_pos h5]⟩
          · refine .inr ?_
            rw [if_neg h5]
            by_cases h6 : i = 1
            · exact .inl ⟨⟨⟨by omega, by omega⟩, by omega, h6⟩, by rw [if_pos h6]⟩
            · exact .inr ⟨⟨⟨by omega, by omega⟩, by omega, by omega⟩, by rw [if_neg h6]⟩
/-- Products of a number of 64 bits and a count stay far from the limits. -/
theorem mul_bound (n t : Int) (hn : R64 n) (h0 : 0 ≤ t) (ht : t ≤ 1073741824) : -9903520314283042199192993792 ≤ n * t ∧ n * t ≤ 9903520314283042199192993792 := by
  unfold R64 at hn
  have h1 : n * t ≤ 9223372036854775808 * t := Int.mul_le_mul_of_nonneg_right (by omega) h0
  have h2 : -9223372036854775808 * t ≤ n * t := Int.mul_le_mul_of_nonneg_right (by omega) h0
  omega
end Go.Proofs.Ytinaecmpigenoaa
