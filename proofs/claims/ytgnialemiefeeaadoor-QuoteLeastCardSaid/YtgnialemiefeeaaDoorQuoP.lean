/-
  Layer 2, plain: what a quoted text says, sign by sign, and how a text is quoted. No program in sight.
-/
import Derived.Test.YtgnialemiefeeaaDoorUtfP
namespace Go.Proofs.YtgnialemiefeeaaDoor

/-- The number of a digit to the base 16; 16: it is none. -/
def hexD (c : Nat) : Nat := if 48 ≤ c ∧ c ≤ 57 then c - 48 else if 97 ≤ c ∧ c ≤ 102 then c - 87 else if 65 ≤ c ∧ c ≤ 70 then c - 55 else 16
theorem hexD_le (c : Nat) : hexD c ≤ 16 := by unfold hexD; split <;> (try split) <;> (try split) <;> omega
/-- A byte of a row. -/
def at0 (l : List UInt8) (k : Nat) : Nat := (l.getD k 0).toNat
theorem at0_lt (l : List UInt8) (k : Nat) : at0 l k < 256 := (l.getD k 0).toNat_lt
theorem at0_drop (l : List UInt8) (p k : Nat) : at0 (l.drop p) k = at0 l (p + k) := by
  unfold at0; simp [List.getD_eq_getElem?_getD, List.getElem?_drop]
theorem at0_app (l r : List UInt8) (k : Nat) (h : k < l.length) : at0 (l ++ r) k = at0 l k := by
  unfold at0; simp [List.getD_eq_getElem?_getD, List.getElem?_append_left h]
theorem at0_take (l : List UInt8) (m k : Nat) (h : k < m) : at0 (l.take m) k = at0 l k := by
  unfold at0; simp [List.getD_eq_getElem?_getD, h]
/-- The number of the four digits at the front of a row. -/
def hexL (l : List UInt8) : Option Nat :=
  if 4 ≤ l.length ∧ hexD (at0 l 0) < 16 ∧ hexD (at0 l 1) < 16 ∧ hexD (at0 l 2) < 16 ∧ hexD (at0 l 3) < 16 then
    some (((hexD (at0 l 0) * 16 + hexD (at0 l 1)) * 16 + hexD (at0 l 2)) * 16 + hexD (at0 l 3)) else none
theorem hexL_lt {l : List UInt8} {n : Nat} (h : hexL l = some n) : n ≤ 65535 := by
  unfold hexL at h
  split at h
  · injection h; omega
  · cases h
/-- The number that backslash, u and four digits say. -/
def fourL (l : List UInt8) : Option Nat := if 2 ≤ l.length ∧ at0 l 0 = 92 ∧ at0 l 1 = 117 then hexL (l.drop 2) else none
theorem fourL_lt {l : List UInt8} {n : Nat} (h : fourL l = some n) : n ≤ 65535 := by
  unfold fourL at h
  split at h
  · exact hexL_lt h
  · cases h
theorem fourL_len {l : List UInt8} {n : Nat} (h : fourL l = some n) : 6 ≤ l.length := by
  unfold fourL hexL at h
  split at h
  · split at h
    · rename_i h1 h2
      rw [List.length_drop] at h2
      omega
    · cases h
  · cases h
/-- What a letter behind a backslash says. -/
def letL (c : Nat) : Option Nat :=
  if c = 34 then some 34 else if c = 92 then some 92 else if c = 47 then some 47 else if c = 98 then some 8 else if c = 102 then some 12
  else if c = 110 then some 10 else if c = 114 then some 13 else if c = 116 then some 9 else none
theorem letL_cases {c n : Nat} (h : letL c = some n) : n = 34 ∨ n = 92 ∨ n = 47 ∨ n = 8 ∨ n = 12 ∨ n = 10 ∨ n = 13 ∨ n = 9 := by
  unfold letL at h
  repeat' split at h
  all_goals first | (injection h; omega) | cases h
/-- An escape at the front of a row: what it says, and how long it is. -/
def escL (l : List UInt8) : Nat × Nat :=
  if l.length < 2 then (0, 0) else
  match letL (at0 l 1) with
  | some c => (c, 2)
  | none =>
    match fourL l with
    | none => (0, 0)
    | some n =>
      if n < 55296 ∨ 57343 < n then (n, 6)
      else if 56320 ≤ n then (0, 0)
      else
        match fourL (l.drop 6) with
        | none => (0, 0)
        | some m => if 56320 ≤ m ∧ m ≤ 57343 then (65536 + (n - 55296) * 1024 + (m - 56320), 12) else (0, 0)
/-- The sign at the front of a row. -/
def begL (l : List UInt8) : Nat × Nat :=
  if at0 l 0 = 92 then escL l
  else if (decL l).2 = 0 ∨ at0 l 0 < 32 ∨ at0 l 0 = 34 then (0, 0) else decL l

theorem esc_cases (l : List UInt8) : escL l = (0, 0) ∨
    (2 ≤ l.length ∧ letL (at0 l 1) = some (escL l).1 ∧ (escL l).2 = 2) ∨
    (letL (at0 l 1) = none ∧ fourL l = some (escL l).1 ∧ ((escL l).1 < 55296 ∨ 57343 < (escL l).1) ∧ (escL l).2 = 6) ∨
    (letL (at0 l 1) = none ∧ ∃ n m, fourL l = some n ∧ fourL (l.drop 6) = some m ∧ 55296 ≤ n ∧ n < 56320 ∧ 56320 ≤ m ∧ m ≤ 57343 ∧ escL l = (65536 + (n - 55296) * 1024 + (m - 56320), 12)) := by
  unfold escL
  split
  · exact .inl rfl
  · rename_i hl
    cases h1 : letL (at0 l 1) with
    | some c => exact .inr (.inl ⟨by omega, rfl, rfl⟩)
    | none =>
      cases h2 : fourL l with
      | none => exact .inl rfl
      | some n =>
        simp only
        by_cases h3 : n < 55296 ∨ 57343 < n
        · rw [if_pos h3]; exact .inr (.inr (.inl ⟨trivial, rfl, h3, rfl⟩))
        · rw [if_neg h3]
          by_cases h4 : 56320 ≤ n
          · rw [if_pos h4]; exact .inl rfl
          · rw [if_neg h4]
            cases h5 : fourL (l.drop 6) with
            | none => exact .inl rfl
            | some m =>
              simp only
              by_cases h6 : 56320 ≤ m ∧ m ≤ 57343
              · rw [if_pos h6]; exact .inr (.inr (.inr ⟨trivial, n, m, rfl, rfl, by omega, by omega, h6.1, h6.2, rfl⟩))
              · rw [if_neg h6]; exact .inl rfl
theorem isCp_of (n : Nat) (h : n ≤ 1114111) (h2 : n < 55296 ∨ 57343 < n) : isCp (n : Int) = true := (isCp_iff _).2 ⟨⟨by omega, by omega⟩, by omega⟩
theorem esc_cp (l : List UInt8) (h : (escL l).2 ≠ 0) : isCp (escL l).1 = true := by
  rcases esc_cases l with e | ⟨_, e, _⟩ | ⟨_, e, e2, _⟩ | ⟨_, n, m, e1, e2, h1, h2, h3, h4, e⟩
  · rw [e] at h; exact absurd rfl h
  · have := letL_cases e; exact isCp_of _ (by omega) (by omega)
  · have := fourL_lt e; exact isCp_of _ (by omega) e2
  · rw [e]; exact isCp_of _ (by simp only; omega) (by simp only; omega)
theorem esc_le (l : List UInt8) : (escL l).2 ≤ l.length := by
  rcases esc_cases l with e | ⟨h, _, e⟩ | ⟨_, e, _, e2⟩ | ⟨_, n, m, e1, e2, h1, h2, h3, h4, e⟩
  · rw [e]; exact Nat.zero_le _
  · rw [e]; exact h
  · rw [e2]; exact fourL_len e
  · rw [e]; have := fourL_len e2; rw [List.length_drop] at this; simp only; omega
theorem esc_zero {l : List UInt8} (h : (escL l).2 = 0) : escL l = (0, 0) := by
  rcases esc_cases l with e | ⟨_, _, e⟩ | ⟨_, _, _, e⟩ | ⟨_, n, m, _, _, _, _, _, _, e⟩
  · exact e
  all_goals (rw [e] at h; cases h)
theorem beg_esc {l : List UInt8} (h : at0 l 0 = 92) : begL l = escL l := by unfold begL; rw [if_pos h]
theorem beg_dec {l : List UInt8} (h : at0 l 0 ≠ 92) (h1 : 32 ≤ at0 l 0) (h2 : at0 l 0 ≠ 34) : begL l = decL l := by
  unfold begL
  rw [if_neg h]
  by_cases h3 : (decL l).2 = 0
  · rw [if_pos (.inl h3), dec_zero h3]
  · rw [if_neg (by omega)]
theorem beg_bad {l : List UInt8} (h : at0 l 0 < 32 ∨ at0 l 0 = 34) : begL l = (0, 0) := by
  unfold begL
  rw [if_neg (by omega), if_pos (by omega)]
theorem beg_zero {l : List UInt8} (h : (begL l).2 = 0) : begL l = (0, 0) := by
  by_cases h1 : at0 l 0 = 92
  · rw [beg_esc h1] at h ⊢; exact esc_zero h
  · by_cases h2 : at0 l 0 < 32 ∨ at0 l 0 = 34
    · exact beg_bad h2
    · rw [beg_dec h1 (by omega) (by omega)] at h ⊢; exact dec_zero h
theorem beg_cp (l : List UInt8) (h : (begL l).2 ≠ 0) : isCp (begL l).1 = true := by
  by_cases h1 : at0 l 0 = 92
  · rw [beg_esc h1] at h ⊢; exact esc_cp l h
  · by_cases h2 : at0 l 0 < 32 ∨ at0 l 0 = 34
    · rw [beg_bad h2] at h; exact absurd rfl h
    · rw [beg_dec h1 (by omega) (by omega)] at h ⊢
      exact (enc_dec (l := l) (c := (decL l).1) (n := (decL l).2) rfl h).1
theorem beg_le (l : List UInt8) : (begL l).2 ≤ l.length := by
  by_cases h1 : at0 l 0 = 92
  · rw [beg_esc h1]; exact esc_le l
  · by_cases h2 : at0 l 0 < 32 ∨ at0 l 0 = 34
    · rw [beg_bad h2]; exact Nat.zero_le _
    · rw [beg_dec h1 (by omega) (by omega)]; exact dec_le l

/-- The signs of a row, as far as it is right, and how many bytes they take. -/
def sgsL (l : List UInt8) : List Nat × Nat :=
  if (begL l).2 = 0 then ([], 0)
  else ((begL l).1 :: (sgsL (l.drop (begL l).2)).1, (begL l).2 + (sgsL (l.drop (begL l).2)).2)
termination_by l.length
decreasing_by
  all_goals
    have := beg_le l
    rw [List.length_drop]
    omega
theorem sgs_zero {l : List UInt8} (h : (begL l).2 = 0) : sgsL l = ([], 0) := by rw [sgsL, if_pos h]
theorem sgs_step {l : List UInt8} (h : (begL l).2 ≠ 0) : sgsL l = ((begL l).1 :: (sgsL (l.drop (begL l).2)).1, (begL l).2 + (sgsL (l.drop (begL l).2)).2) := by rw [sgsL, if_neg h]
theorem sgs_is : ∀ (n : Nat) (l : List UInt8), l.length ≤ n → allCp (sgsL l).1 ∧ (sgsL l).2 ≤ l.length ∧ (sgsL l).1.length ≤ (sgsL l).2 ∧ (begL (l.drop (sgsL l).2)).2 = 0
  | n, l, hl => by
    by_cases h : (begL l).2 = 0
    · rw [sgs_zero h]
      exact ⟨fun _ hx => by simp at hx, Nat.zero_le _, Nat.le_refl _, by simpa using h⟩
    · have hc := beg_cp l h
      have hle := beg_le l
      match n, hl with
      | 0, hl => omega
      | n + 1, hl =>
        obtain ⟨i1, i2, i3, i4⟩ := sgs_is n (l.drop (begL l).2) (by rw [List.length_drop]; omega)
        rw [List.length_drop] at i2
        rw [sgs_step h]
        simp only
        refine ⟨?_, by omega, ?_, ?_⟩
        · intro x hx
          rcases List.mem_cons.1 hx with rfl | hx
          · exact hc
          · exact i1 x hx
        · rw [List.length_cons]; omega
        · rw [← List.drop_drop]; exact i4
end Go.Proofs.YtgnialemiefeeaaDoor
