/-
  Layer 3, plain: how far a numeral goes.
-/
import Derived.Test.YtchmchbgbchipaaDoorW
namespace Go.Proofs.YtchmchbgbchipaaDoor

def isDg (c : UInt8) : Bool := decide (48 ≤ c.toNat) && decide (c.toNat ≤ 57)
/-- Is the byte at a place one of some? -/
def tk (set l : List UInt8) (p : Nat) : Bool := decide (p < l.length) && set.contains (l.getD p 0)
def dset : List UInt8 := [48, 49, 50, 51, 52, 53, 54, 55, 56, 57]
theorem dset_is (c : UInt8) : dset.contains c = isDg c := by
  rw [Bool.eq_iff_iff]
  unfold isDg dset
  simp only [List.contains_eq_mem, List.mem_cons, List.not_mem_nil, or_false, decide_eq_true_eq, Bool.and_eq_true]
  constructor
  · rintro (h | h | h | h | h | h | h | h | h | h) <;> subst h <;> decide
  · rintro ⟨h1, h2⟩
    have e : c = UInt8.ofNat c.toNat := by simp
    generalize c.toNat = n at *
    subst e
    rcases (show n = 48 ∨ n = 49 ∨ n = 50 ∨ n = 51 ∨ n = 52 ∨ n = 53 ∨ n = 54 ∨ n = 55 ∨ n = 56 ∨ n = 57 by omega) with h | h | h | h | h | h | h | h | h | h <;> subst h <;> decide
theorem tk_lt {set l : List UInt8} {p : Nat} (h : tk set l p = true) : p < l.length := by
  unfold tk at h
  rw [Bool.and_eq_true] at h
  exact of_decide_eq_true h.1
theorem tk_end {set l : List UInt8} {p : Nat} (h : l.length ≤ p) : tk set l p = false := by
  unfold tk
  rw [decide_eq_false (by omega)]; rfl
/-- The place behind all digits from a place on. -/
def runP (l : List UInt8) (p : Nat) : Nat := if h : tk dset l p = true then runP l (p + 1) else p
termination_by l.length - p
decreasing_by have := tk_lt h; omega
theorem run_yes {l : List UInt8} {p : Nat} (h : tk dset l p = true) : runP l p = runP l (p + 1) := by rw [runP, dif_pos h]
theorem run_no {l : List UInt8} {p : Nat} (h : tk dset l p = false) : runP l p = p := by rw [runP, dif_neg (by rw [h]; simp)]
theorem run_ge (l : List UInt8) : ∀ (n p : Nat), l.length - p ≤ n → p ≤ runP l p ∧ (p ≤ l.length → runP l p ≤ l.length) ∧ tk dset l (runP l p) = false ∧ ∀ q, p ≤ q → q < runP l p → tk dset l q = true
  | n, p, h => by
    cases ht : tk dset l p
    · rw [run_no ht]
      exact ⟨Nat.le_refl _, id, ht, fun q h1 h2 => by omega⟩
    · have hp := tk_lt ht
      rw [run_yes ht]
      match n, h with
      | 0, h => omega
      | n + 1, h =>
        obtain ⟨h1, h2, h3, h4⟩ := run_ge l n (p + 1) (by omega)
        refine ⟨by omega, fun _ => h2 (by omega), h3, fun q h5 h6 => ?_⟩
        rcases Nat.lt_or_ge p q with h7 | h7
        · exact h4 q (by omega) h6
        · obtain rfl : q = p := by omega
          exact ht
theorem run_le (l : List UInt8) (p : Nat) (h : p ≤ l.length) : runP l p ≤ l.length := (run_ge l _ p (Nat.le_refl _)).2.1 h
theorem run_from (l : List UInt8) (p : Nat) : p ≤ runP l p := (run_ge l _ p (Nat.le_refl _)).1
theorem run_stops (l : List UInt8) (p : Nat) : tk dset l (runP l p) = false := (run_ge l _ p (Nat.le_refl _)).2.2.1
theorem run_all (l : List UInt8) (p q : Nat) (h1 : p ≤ q) (h2 : q < runP l p) : tk dset l q = true := (run_ge l _ p (Nat.le_refl _)).2.2.2 q h1 h2
theorem run_same (l : List UInt8) (p q : Nat) (h1 : p ≤ q) (h2 : ∀ i, p ≤ i → i < q → tk dset l i = true) (h3 : tk dset l q = false) : runP l p = q := by
  have a := run_from l p
  have b := run_stops l p
  rcases Nat.lt_trichotomy (runP l p) q with h | h | h
  · rw [h2 _ a h] at b; cases b
  · exact h
  · rw [run_all l p q h1 h] at h3; cases h3

/-- One step further if a byte of some stands there. -/
def stepP (set l : List UInt8) (p : Nat) : Nat := if tk set l p = true then p + 1 else p
theorem step_le (set l : List UInt8) (p : Nat) (h : p ≤ l.length) : stepP set l p ≤ l.length := by
  unfold stepP
  split
  · exact tk_lt (by assumption)
  · exact h
theorem step_from (set l : List UInt8) (p : Nat) : p ≤ stepP set l p := by unfold stepP; split <;> omega
/-- Digits, at least one: the place behind them, or the place at which they lack. -/
def digP (l : List UInt8) (p : Nat) : Nat × Bool := (runP l p, decide (runP l p ≠ p))
def signP (l : List UInt8) (p : Nat) : Nat := stepP [45] l p
def wholeP (l : List UInt8) (p : Nat) : Nat × Bool := if tk [48] l p = true then (p + 1, true) else digP l p
/-- Behind a point: the place, whether a fraction or exponent was read, and whether all is well. -/
def fracP (l : List UInt8) (p : Nat) : Nat × Bool × Bool := if tk [46] l p = true then ((digP l (p + 1)).1, true, (digP l (p + 1)).2) else (p, false, true)
def expoP (l : List UInt8) (p : Nat) : Nat × Bool × Bool := if tk [101, 69] l p = true then ((digP l (stepP [43, 45] l (p + 1))).1, true, (digP l (stepP [43, 45] l (p + 1))).2) else (p, false, true)
/-- The whole: the place behind it or of the error; whether a fraction or an exponent was read; whether all is well. -/
def scanP (l : List UInt8) (p : Nat) : Nat × Bool × Bool :=
  if (wholeP l (signP l p)).2 = false then ((wholeP l (signP l p)).1, false, false)
  else if (fracP l (wholeP l (signP l p)).1).2.2 = false then ((fracP l (wholeP l (signP l p)).1).1, true, false)
  else ((expoP l (fracP l (wholeP l (signP l p)).1).1).1, (fracP l (wholeP l (signP l p)).1).2.1 || (expoP l (fracP l (wholeP l (signP l p)).1).1).2.1, (expoP l (fracP l (wholeP l (signP l p)).1).1).2.2)
theorem dig_le (l : List UInt8) (p : Nat) (h : p ≤ l.length) : (digP l p).1 ≤ l.length := run_le l p h
theorem whole_le (l : List UInt8) (p : Nat) (h : p ≤ l.length) : (wholeP l p).1 ≤ l.length := by
  unfold wholeP
  split
  · exact tk_lt (by assumption)
  · exact run_le l p h
theorem frac_le (l : List UInt8) (p : Nat) (h : p ≤ l.length) : (fracP l p).1 ≤ l.length := by
  unfold fracP
  split
  · exact run_le l _ (tk_lt (by assumption))
  · exact h
theorem expo_le (l : List UInt8) (p : Nat) (h : p ≤ l.length) : (expoP l p).1 ≤ l.length := by
  unfold expoP
  split
  · exact run_le l _ (step_le _ _ _ (tk_lt (by assumption)))
  · exact h
theorem scan_le (l : List UInt8) (p : Nat) (h : p ≤ l.length) : (scanP l p).1 ≤ l.length := by
  have h1 := whole_le l (signP l p) (step_le _ _ _ h)
  have h2 := frac_le l _ h1
  have h3 := expo_le l _ h2
  unfold scanP
  split
  · exact h1
  · split
    · exact h2
    · exact h3
end Go.Proofs.YtchmchbgbchipaaDoor
