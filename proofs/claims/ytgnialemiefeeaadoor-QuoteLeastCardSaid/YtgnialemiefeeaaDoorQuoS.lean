/-
  Layer 2, plain: how a code point is written, and that it is read again.
-/
import Derived.Test.YtgnialemiefeeaaDoorQuoP
namespace Go.Proofs.YtgnialemiefeeaaDoor

/-- A digit to the base 16, in great letters or small ones. -/
def digC (g : Bool) (d : Nat) : Nat := if d < 10 then 48 + d else if g then 55 + d else 87 + d
theorem digC_lt (g : Bool) (d : Nat) (h : d < 16) : digC g d < 128 := by unfold digC; split <;> (try split) <;> omega
theorem hexD_digC (g : Bool) (d : Nat) (h : d < 16) : hexD (digC g d) = d := by
  unfold hexD digC
  cases g <;> by_cases h1 : d < 10 <;> simp only [h1, if_true, if_false, Bool.false_eq_true]
  all_goals (repeat' split) <;> omega
/-- Backslash, u and four digits. -/
def fourT (g : Bool) (n : Nat) : List UInt8 := [b8 92, b8 117, b8 (digC g (n / 4096 % 16)), b8 (digC g (n / 256 % 16)), b8 (digC g (n / 16 % 16)), b8 (digC g (n % 16))]
theorem fourT_len (g : Bool) (n : Nat) : (fourT g n).length = 6 := rfl
theorem hex_at (g : Bool) (d : Nat) (h : d < 16) : hexD (b8 (digC g d)).toNat = d := by
  have := digC_lt g d h
  rw [b8_toNat _ (by omega), hexD_digC g d h]
theorem fourL_fourT (g : Bool) (n : Nat) (h : n ≤ 65535) (r : List UInt8) : fourL (fourT g n ++ r) = some n := by
  have e0 : at0 (fourT g n ++ r) 0 = 92 := rfl
  have e1 : at0 (fourT g n ++ r) 1 = 117 := rfl
  have d0 : hexD (at0 ((fourT g n ++ r).drop 2) 0) = n / 4096 % 16 := hex_at g _ (by omega)
  have d1 : hexD (at0 ((fourT g n ++ r).drop 2) 1) = n / 256 % 16 := hex_at g _ (by omega)
  have d2 : hexD (at0 ((fourT g n ++ r).drop 2) 2) = n / 16 % 16 := hex_at g _ (by omega)
  have d3 : hexD (at0 ((fourT g n ++ r).drop 2) 3) = n % 16 := hex_at g _ (by omega)
  have hl : (fourT g n ++ r).length = 6 + r.length := by rw [List.length_append, fourT_len]
  unfold fourL hexL
  rw [if_pos ⟨by omega, e0, e1⟩, d0, d1, d2, d3, if_pos ⟨by rw [List.length_drop]; omega, by omega, by omega, by omega, by omega⟩]
  congr 1
  omega
theorem fourL_more {l : List UInt8} {n : Nat} (h : fourL l = some n) (r : List UInt8) : fourL (l ++ r) = some n := by
  have hl := fourL_len h
  have e : ∀ k, k < 6 → at0 (l ++ r) k = at0 l k := fun k hk => at0_app l r k (by omega)
  rw [← h]
  unfold fourL hexL
  simp only [at0_drop, e 0 (by omega), e 1 (by omega), e (2 + 0) (by omega), e (2 + 1) (by omega), e (2 + 2) (by omega), e (2 + 3) (by omega), List.length_append, List.length_drop,
    show (2 ≤ l.length + r.length) = True from by simp; omega, show (2 ≤ l.length) = True from by simp; omega, show (4 ≤ l.length + r.length - 2) = True from by simp; omega, show (4 ≤ l.length - 2) = True from by simp; omega]
/-- The letter behind a backslash that writes a code point, where there is one. -/
def shortL (c : Nat) : Option Nat :=
  if c = 34 then some 34 else if c = 92 then some 92 else if c = 8 then some 98 else if c = 12 then some 102
  else if c = 10 then some 110 else if c = 13 then some 114 else if c = 9 then some 116 else none
theorem shortL_let {c x : Nat} (h : shortL c = some x) : letL x = some c ∧ x < 128 := by
  unfold shortL at h
  repeat' split at h
  all_goals first | (injection h with h; subst h; subst_vars; exact ⟨rfl, by decide⟩) | cases h
theorem shortL_cases {c x : Nat} (h : shortL c = some x) : c = 34 ∨ c = 92 ∨ c < 32 := by
  unfold shortL at h
  repeat' split at h
  all_goals first | omega | cases h
theorem shortL_none {c : Nat} (h : shortL c = none) : c ≠ 34 ∧ c ≠ 92 := by
  constructor <;> (rintro rfl; cases h)
/-- How a code point is written. -/
def spellL (c : Nat) : List UInt8 := match shortL c with | some x => [b8 92, b8 x] | none => if c < 32 then fourT false c else encL c
theorem spell_short {c x : Nat} (h : shortL c = some x) : spellL c = [b8 92, b8 x] := by unfold spellL; rw [h]
theorem spell_low {c : Nat} (h : shortL c = none) (h2 : c < 32) : spellL c = fourT false c := by unfold spellL; rw [h]; exact if_pos h2
theorem spell_own {c : Nat} (h : shortL c = none) (h2 : ¬ c < 32) : spellL c = encL c := by unfold spellL; rw [h]; exact if_neg h2
theorem spell_len (c : Nat) : 1 ≤ (spellL c).length ∧ (spellL c).length ≤ 6 := by
  cases h : shortL c with
  | some x => rw [spell_short h]; simp
  | none =>
    by_cases h2 : c < 32
    · rw [spell_low h h2, fourT_len]; omega
    · rw [spell_own h h2]; have := encL_len_pos c; omega

theorem esc_letter {l : List UInt8} {c : Nat} (h : 2 ≤ l.length) (h2 : letL (at0 l 1) = some c) : escL l = (c, 2) := by
  unfold escL; rw [if_neg (by omega), h2]
theorem esc_four {l : List UInt8} {n : Nat} (h : letL (at0 l 1) = none) (h2 : fourL l = some n) (h3 : n < 55296 ∨ 57343 < n) : escL l = (n, 6) := by
  have := fourL_len h2
  unfold escL; rw [if_neg (by omega), h, h2]; exact if_pos h3
theorem esc_pair {l : List UInt8} {n m : Nat} (h : letL (at0 l 1) = none) (h2 : fourL l = some n) (h3 : fourL (l.drop 6) = some m) (h4 : 55296 ≤ n) (h5 : n < 56320) (h6 : 56320 ≤ m) (h7 : m ≤ 57343) :
    escL l = (65536 + (n - 55296) * 1024 + (m - 56320), 12) := by
  have := fourL_len h2
  unfold escL; rw [if_neg (by omega), h, h2]; simp only
  rw [if_neg (by omega), if_neg (by omega), h3]; exact if_pos ⟨h6, h7⟩
/-- The front byte of a code point's own bytes. -/
theorem enc_at0 (c : Nat) (h : isCp c = true) (r : List UInt8) : at0 (encL c ++ r) 0 = c ∧ c < 128 ∨ 128 ≤ at0 (encL c ++ r) 0 ∧ 128 ≤ c := by
  have hc := (isCp_iff c).1 h
  unfold encL at0
  split
  · left; exact ⟨b8_toNat c (by omega), by assumption⟩
  · right
    split
    · exact ⟨by show 128 ≤ (b8 (192 + c / 64)).toNat; rw [b8_toNat _ (by omega)]; omega, by omega⟩
    · split
      · exact ⟨by show 128 ≤ (b8 (224 + c / 4096)).toNat; rw [b8_toNat _ (by omega)]; omega, by omega⟩
      · exact ⟨by show 128 ≤ (b8 (240 + c / 262144)).toNat; rw [b8_toNat _ (by omega)]; omega, by omega⟩
/-- A sign that is a code point's own bytes. -/
theorem beg_own (c : Nat) (h : isCp c = true) (h1 : 32 ≤ c) (h2 : c ≠ 34) (h3 : c ≠ 92) (r : List UInt8) : begL (encL c ++ r) = (c, (encL c).length) := by
  rw [beg_dec (by rcases enc_at0 c h r with e | e <;> omega) (by rcases enc_at0 c h r with e | e <;> omega) (by rcases enc_at0 c h r with e | e <;> omega), dec_enc c h r]
theorem beg_four (g : Bool) (n : Nat) (h : n ≤ 65535) (h2 : n < 55296 ∨ 57343 < n) (r : List UInt8) : begL (fourT g n ++ r) = (n, 6) := by
  rw [beg_esc rfl, esc_four rfl (fourL_fourT g n h r) h2]
theorem beg_pair (g g2 : Bool) (n m : Nat) (h1 : 55296 ≤ n) (h2 : n < 56320) (h3 : 56320 ≤ m) (h4 : m ≤ 57343) (r : List UInt8) :
    begL (fourT g n ++ (fourT g2 m ++ r)) = (65536 + (n - 55296) * 1024 + (m - 56320), 12) := by
  rw [beg_esc rfl, esc_pair (l := fourT g n ++ (fourT g2 m ++ r)) rfl (fourL_fourT g n (by omega) _) (fourL_fourT g2 m (by omega) r) h1 h2 h3 h4]
theorem beg_spell (c : Nat) (h : isCp c = true) (r : List UInt8) : begL (spellL c ++ r) = (c, (spellL c).length) := by
  have hc := (isCp_iff c).1 h
  cases h1 : shortL c with
  | some x =>
    obtain ⟨e, hx⟩ := shortL_let h1
    rw [spell_short h1, beg_esc rfl, esc_letter (c := c) (by simp) (by show letL (b8 x).toNat = some c; rw [b8_toNat x (by omega)]; exact e)]
    rfl
  | none =>
    obtain ⟨h3, h4⟩ := shortL_none h1
    by_cases h2 : c < 32
    · rw [spell_low h1 h2, fourT_len]; exact beg_four false c (by omega) (by omega) r
    · rw [spell_own h1 h2]; exact beg_own c h (by omega) h3 h4 r
/-- What is said is said whatever follows. -/
theorem beg_more (l r : List UInt8) (h : (begL l).2 ≠ 0) : begL (l ++ r) = begL l := by
  have hle := beg_le l
  have e0 : at0 (l ++ r) 0 = at0 l 0 := at0_app l r 0 (by omega)
  by_cases h1 : at0 l 0 = 92
  · rw [beg_esc h1] at h hle ⊢
    rw [beg_esc (e0.trans h1)]
    rcases esc_cases l with e | ⟨h2, e, e2⟩ | ⟨h2, e, e3, e2⟩ | ⟨h2, n, m, e1, e2, h3, h4, h5, h6, e⟩
    · rw [e] at h; exact absurd rfl h
    · rw [esc_letter (c := (escL l).1) (by rw [List.length_append]; omega) (by rw [at0_app l r 1 (by omega)]; exact e), ← e2]
    · have := fourL_len e
      rw [esc_four (n := (escL l).1) (by rw [at0_app l r 1 (by omega)]; exact h2) (fourL_more e r) e3, ← e2]
    · have := fourL_len e1
      have h7 := fourL_len e2
      rw [List.length_drop] at h7
      rw [e, esc_pair (n := n) (m := m) (by rw [at0_app l r 1 (by omega)]; exact h2) (fourL_more e1 r) (by rw [List.drop_append_of_le_length (by omega)]; exact fourL_more e2 r) h3 h4 h5 h6]
  · by_cases h2 : at0 l 0 < 32 ∨ at0 l 0 = 34
    · rw [beg_bad h2] at h; exact absurd rfl h
    · rw [beg_dec h1 (by omega) (by omega)] at h ⊢
      rw [beg_dec (by omega) (by omega) (by omega)]
      obtain ⟨hc, q, e, e2⟩ := enc_dec (l := l) (c := (decL l).1) (n := (decL l).2) rfl h
      generalize hd : decL l = d at hc e e2 h ⊢
      obtain ⟨c, n⟩ := d
      simp only at hc e e2 h
      rw [e, List.append_assoc, dec_enc c hc, ← e2]
/-- No sign is shorter than its canonical way. -/
theorem beg_least (l : List UInt8) (h : (begL l).2 ≠ 0) : (spellL (begL l).1).length ≤ (begL l).2 := by
  by_cases h1 : at0 l 0 = 92
  · rw [beg_esc h1] at h ⊢
    rcases esc_cases l with e | ⟨h2, e, e2⟩ | ⟨h2, e, e3, e2⟩ | ⟨h2, n, m, e1, e2, h3, h4, h5, h6, e⟩
    · rw [e] at h; exact absurd rfl h
    · rw [e2]
      generalize (escL l).1 = c at e ⊢
      rcases letL_cases e with rfl | rfl | rfl | rfl | rfl | rfl | rfl | rfl <;> decide
    · have := spell_len (escL l).1; omega
    · rw [e]; have := spell_len (65536 + (n - 55296) * 1024 + (m - 56320)); simp only; omega
  · by_cases h2 : at0 l 0 < 32 ∨ at0 l 0 = 34
    · rw [beg_bad h2] at h; exact absurd rfl h
    · rw [beg_dec h1 (by omega) (by omega)] at h ⊢
      obtain ⟨hc, q, e, e2⟩ := enc_dec (l := l) (c := (decL l).1) (n := (decL l).2) rfl h
      have h3 := enc_at0 (decL l).1 hc q
      rw [← e] at h3
      generalize decL l = d at hc e e2 h h3 ⊢
      obtain ⟨c, n⟩ := d
      simp only at hc e e2 h h3 ⊢
      rw [e2]
      cases hs : shortL c with
      | none => rw [spell_own hs (by omega)]; exact Nat.le_refl _
      | some x =>
        have := shortL_cases hs
        omega
/-- Code points, quoted. -/
def spellsL (cps : List Nat) : List UInt8 := (cps.map spellL).flatten
def quoteL (cps : List Nat) : List UInt8 := b8 34 :: (spellsL cps ++ [b8 34])
theorem spells_nil : spellsL [] = [] := rfl
theorem spells_cons (c : Nat) (l : List Nat) : spellsL (c :: l) = spellL c ++ spellsL l := by simp [spellsL]
theorem spells_append (l m : List Nat) : spellsL (l ++ m) = spellsL l ++ spellsL m := by simp [spellsL]
theorem spells_one (c : Nat) : spellsL [c] = spellL c := by simp [spellsL]
theorem quote_len (cps : List Nat) : (quoteL cps).length = (spellsL cps).length + 2 := by simp [quoteL]
theorem sgs_spells : ∀ (cps : List Nat) (r : List UInt8), allCp cps → sgsL (spellsL cps ++ r) = (cps ++ (sgsL r).1, (spellsL cps).length + (sgsL r).2)
  | [], r, _ => by simp [spells_nil]
  | c :: cps, r, h => by
    have hp := spell_len c
    have hd := beg_spell c (h c (by simp)) (spellsL cps ++ r)
    rw [spells_cons, List.append_assoc, sgs_step (by rw [hd]; simp only; omega), hd]
    simp only [List.drop_left]
    rw [sgs_spells cps r (fun x hx => h x (by simp [hx]))]
    simp only [List.cons_append, List.length_append]
    rw [Nat.add_assoc]
theorem sgs_mark (r : List UInt8) : sgsL (b8 34 :: r) = ([], 0) := sgs_zero (by rw [beg_bad (.inr rfl)])
theorem sgs_quote (cps : List Nat) (r : List UInt8) (h : allCp cps) : sgsL (spellsL cps ++ (b8 34 :: r)) = (cps, (spellsL cps).length) := by
  rw [sgs_spells cps _ h, sgs_mark, List.append_nil, Nat.add_zero]
/-- What is read up to a closing mark is read whatever follows. -/
theorem sgs_more : ∀ (n : Nat) (l r : List UInt8), l.length ≤ n → (sgsL l).2 < l.length → at0 l (sgsL l).2 = 34 → sgsL (l ++ r) = sgsL l
  | n, l, r, hl, h1, h2 => by
    by_cases h : (begL l).2 = 0
    · rw [sgs_zero h] at h1 h2 ⊢
      exact sgs_zero (by rw [beg_bad (.inr (by rw [at0_app l r 0 h1]; exact h2))])
    · have hle := beg_le l
      match n, hl with
      | 0, hl => omega
      | n + 1, hl =>
        rw [sgs_step h] at h1 h2
        simp only at h1 h2
        have i := sgs_more n (l.drop (begL l).2) r (by rw [List.length_drop]; omega) (by rw [List.length_drop]; omega) (by rw [at0_drop]; exact h2)
        rw [sgs_step (by rw [beg_more l r h]; exact h), beg_more l r h, List.drop_append_of_le_length hle, i, sgs_step h]
/-- No text's signs are shorter than its canonical way. -/
theorem sgs_least : ∀ (n : Nat) (l : List UInt8), l.length ≤ n → (spellsL (sgsL l).1).length ≤ (sgsL l).2
  | n, l, hl => by
    by_cases h : (begL l).2 = 0
    · rw [sgs_zero h]; exact Nat.le_refl _
    · have hle := beg_le l
      match n, hl with
      | 0, hl => omega
      | n + 1, hl =>
        have i := sgs_least n (l.drop (begL l).2) (by rw [List.length_drop]; omega)
        have := beg_least l h
        rw [sgs_step h]
        simp only
        rw [spells_cons, List.length_append]
        omega
end Go.Proofs.YtgnialemiefeeaaDoor
