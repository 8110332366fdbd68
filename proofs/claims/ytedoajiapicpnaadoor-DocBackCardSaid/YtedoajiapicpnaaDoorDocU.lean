/-
  Package doc: ParseRev, what it reads.
-/
import Derived.Test.YtedoajiapicpnaaDoorDocS
import Derived.Test.YtedoajiapicpnaaDoorRange
import Derived.ChangeKeysEq
import Derived.Test.YtedoajiapicpnaaDoorDocC
namespace Go.Proofs.YtedoajiapicpnaaDoor
open Go.RowKit

/-- One byte read: generation, mark, has the hyphen been. -/
def scan1 (st : Nat × Nat × Bool) (c : UInt8) : Option (Nat × Nat × Bool) :=
  if st.2.2 then (if digN c.toNat < 16 then some (st.1, (st.2.1 * 16) % 4294967296 + digN c.toNat, true) else none)
  else if digN c.toNat < 10 ∧ st.1 ≤ 4294967295 then some (10 * st.1 + digN c.toNat, st.2.1, false)
  else if c.toNat = 45 then some (st.1, st.2.1, true) else none
def scan : List UInt8 → Nat × Nat × Bool → Option (Nat × Nat × Bool)
  | [], st => some st
  | c :: l, st => match scan1 st c with
    | some st' => scan l st'
    | none => none
theorem scan_snoc : ∀ (l : List UInt8) (c : UInt8) (st : Nat × Nat × Bool), scan (l ++ [c]) st = (scan l st).bind fun st' => scan1 st' c
  | [], c, st => by
    simp only [List.nil_append, scan, Option.bind_some]
    cases scan1 st c <;> rfl
  | d :: l, c, st => by
    simp only [List.cons_append, scan]
    cases scan1 st d with
    | none => rfl
    | some st' => exact scan_snoc l c st'
theorem scan_none (l m : List UInt8) (st : Nat × Nat × Bool) (h : scan l st = none) : scan (l ++ m) st = none := by
  induction l generalizing st with
  | nil => cases h
  | cons c l ih =>
    simp only [List.cons_append, scan] at *
    cases hs : scan1 st c with
    | none => rfl
    | some st' =>
      rw [hs] at h
      exact ih st' h
/-- Digits behind the hyphen. -/
theorem scan_hex (m : Nat) (hm : m < 4294967296) (g : Nat) : ∀ k, k ≤ 8 → scan (hexTo m k) (g, 0, true) = some (g, m / 16 ^ (8 - k), true)
  | 0, _ => by
    simp only [hexTo, scan]
    rw [show m / 16 ^ (8 - 0) = 0 from Nat.div_eq_of_lt hm]
  | k + 1, h => by
    rw [hexTo, scan_snoc, scan_hex m hm g k (by omega), Option.bind_some]
    have hd : digN (hx (m / 16 ^ (7 - k) % 16)).toNat = m / 16 ^ (7 - k) % 16 := (hx_digN _ (Nat.mod_lt _ (by decide)) _).1 rfl
    unfold scan1
    simp only [hd]
    rw [if_pos trivial, if_pos (Nat.mod_lt _ (by decide))]
    have e1 : m / 16 ^ (8 - k) = m / 16 ^ (7 - k) / 16 := by
      rw [show 8 - k = 7 - k + 1 by omega, Nat.pow_succ, Nat.div_div_eq_div_mul]
    have e2 : m / 16 ^ (8 - (k + 1)) = m / 16 ^ (7 - k) := by rw [show 8 - (k + 1) = 7 - k by omega]
    have e3 : m / 16 ^ (7 - k) ≤ m := Nat.div_le_self _ _
    rw [e1, e2]
    generalize m / 16 ^ (7 - k) = q at *
    congr 3
    omega
/-- Digits ahead of the hyphen. -/
theorem scan_dec : ∀ (f n : Nat), n < 10 ^ (f + 1) → n < 4294967296 → scan (decF f n) (0, 0, false) = some (n, 0, false)
  | 0, n, h, _ => by
    have h10 : n < 10 := by simpa using h
    rw [decF_small 0 n h10]
    have hd : digN (hx n).toNat = n := (hx_digN n (by omega) _).1 rfl
    simp only [scan, scan1, hd]
    rw [if_neg (by decide), if_pos ⟨h10, by omega⟩]
    simp
  | f + 1, n, h, hn => by
    by_cases h10 : n < 10
    · rw [decF_small _ n h10]
      have hd : digN (hx n).toNat = n := (hx_digN n (by omega) _).1 rfl
      simp only [scan, scan1, hd]
      rw [if_neg (by decide), if_pos ⟨h10, by omega⟩]
      simp
    · have hlt : n / 10 < 10 ^ (f + 1) := by rw [Nat.div_lt_iff_lt_mul (by omega), ← Nat.pow_succ]; exact h
      rw [decF, if_neg h10, scan_snoc, scan_dec f (n / 10) hlt (by omega), Option.bind_some]
      have hd : digN (hx (n % 10)).toNat = n % 10 := (hx_digN _ (by omega) _).1 rfl
      simp only [scan1, hd]
      rw [if_neg (by decide), if_pos ⟨by omega, by omega⟩]
      congr 2
      omega
theorem scan_append : ∀ (l m : List UInt8) (st st' : Nat × Nat × Bool), scan l st = some st' → scan (l ++ m) st = scan m st'
  | [], m, st, st', h => by
    injection h with h
    subst h
    rfl
  | c :: l, m, st, st', h => by
    simp only [List.cons_append, scan] at *
    cases hs : scan1 st c with
    | none => rw [hs] at h; cases h
    | some st1 =>
      rw [hs] at h
      exact scan_append l m st1 st' h
/-- A revision's text is read as that revision. -/
theorem scan_text (g m : Nat) (hg : g < 4294967296) (hm : m < 4294967296) : scan (textL g m) (0, 0, false) = some (g, m, true) := by
  unfold textL
  rw [List.append_assoc, scan_append _ _ _ _ (scan_dec 9 g (by omega) hg)]
  have h1 : scan [45] (g, 0, false) = some (g, 0, true) := by
    simp only [scan, scan1]
    rw [if_neg (by decide), if_neg (by intro h; exact absurd h.1 (by decide)), if_pos (by decide)]
  rw [scan_append _ _ _ _ h1, scan_hex m hm g 8 (Nat.le_refl _)]
  simp
/-- What ParseRev makes of a string, what it answers. -/
def parseOk (l : List UInt8) : Option (Nat × Nat) :=
  if l = [] then some (0, 0) else match scan l (0, 0, false) with
    | some st => if 0 < st.1 ∧ st.1 ≤ 4294967295 ∧ textL st.1 st.2.1 = l then some (st.1, st.2.1) else none
    | none => none
def parV (l : List UInt8) : Value := match parseOk l with
  | some p => revV p.1 p.2
  | none => revV 0 0
def parE (l : List UInt8) : Int := match parseOk l with
  | some _ => 0
  | none => 291

theorem str_ne (s : ByteArray) (h : 0 < s.size) : s.toList.isEmpty = false := by
  rw [ByteArray.toList_eq, Bool.eq_false_iff]
  intro e
  have e2 : s.data.toList = [] := List.isEmpty_iff.1 e
  have e3 := str_len s
  rw [e2] at e3
  simp at e3
  omega
end Go.Proofs.YtedoajiapicpnaaDoor
