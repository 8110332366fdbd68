/-
  Layer 3, plain: the number of digits; what ParseInt says of a numeral; the shape of what is read.
-/
import Derived.Test.YtchmchbgbchipaaDoorNumP
import Derived.Lib.ParseIntBCases
import Derived.Lib.ItoaMem
namespace Go.Proofs.YtchmchbgbchipaaDoor

/-- The number that digits spell. -/
def valD (a : Nat) : List UInt8 → Nat
  | [] => a
  | c :: r => valD (a * 10 + (c.toNat - 48)) r
theorem valD_ge : ∀ (l : List UInt8) (a : Nat), a ≤ valD a l
  | [], a => Nat.le_refl _
  | c :: r, a => by
    have := valD_ge r (a * 10 + (c.toNat - 48))
    show a ≤ valD _ r
    omega
theorem valD_append : ∀ (l m : List UInt8) (a : Nat), valD a (l ++ m) = valD (valD a l) m
  | [], _, _ => rfl
  | c :: l, m, a => by
    show valD (a * 10 + (c.toNat - 48)) (l ++ m) = valD (valD (a * 10 + (c.toNat - 48)) l) m
    exact valD_append l m _
theorem valD_one (a : Nat) (c : UInt8) : valD a [c] = a * 10 + (c.toNat - 48) := rfl
def allDg (l : List UInt8) : Prop := ∀ c ∈ l, isDg c = true
theorem isDg_iff (c : UInt8) : isDg c = true ↔ 48 ≤ c.toNat ∧ c.toNat ≤ 57 := by unfold isDg; simp
theorem parseM_digits (M : Nat) (hM : M ≤ 18446744073709551615) : ∀ (l : List UInt8) (a : Nat), allDg l → a ≤ M → Lib.parseUintM M a l = if valD a l ≤ M then .ok (valD a l) else .range
  | [], a, _, ha => by show Lib.NumEnd.ok a = _; rw [if_pos (show valD a [] ≤ M from ha)]; rfl
  | c :: r, a, h, ha => by
    have hc := (isDg_iff c).1 (h c (by simp))
    have hr : allDg r := fun x hx => h x (by simp [hx])
    have hg := valD_ge r (a * 10 + (c.toNat - 48))
    show (if 48 ≤ c.toNat ∧ c.toNat ≤ 57 then _ else _) = if valD (a * 10 + (c.toNat - 48)) r ≤ M then Lib.NumEnd.ok (valD (a * 10 + (c.toNat - 48)) r) else .range
    rw [if_pos hc]
    by_cases h1 : 1844674407370955162 ≤ a
    · rw [if_pos h1, if_neg (by omega)]
    · rw [if_neg h1]
      by_cases h2 : M < a * 10 + (c.toNat - 48)
      · rw [if_pos h2, if_neg (by omega)]
      · rw [if_neg h2]
        exact parseM_digits M hM r _ hr (by omega)
/-- What a numeral of digits, with a sign or none, is as a number of 64 bits. -/
def numR (neg : Bool) (ds : List UInt8) : Option Int :=
  if neg = true then (if valD 0 ds ≤ 9223372036854775808 then some (-(valD 0 ds : Int)) else none) else (if valD 0 ds < 9223372036854775808 then some (valD 0 ds : Int) else none)
def withSign (neg : Bool) (ds : List UInt8) : List UInt8 := if neg = true then 45 :: ds else ds
def endOf : Option Int → Lib.NumEnd Int
  | some v => .ok v
  | none => .range
theorem numR_plain (ds : List UInt8) : numR false ds = if valD 0 ds < 9223372036854775808 then some (valD 0 ds : Int) else none := rfl
theorem numR_neg (ds : List UInt8) : numR true ds = if valD 0 ds ≤ 9223372036854775808 then some (-(valD 0 ds : Int)) else none := rfl
theorem less_end (v : Nat) : Lib.signlessC (2 ^ (64 - 1)) (if v ≤ 18446744073709551615 then .ok v else .range) = endOf (if v < 9223372036854775808 then some (v : Int) else none) := by
  by_cases h1 : v < 9223372036854775808
  · rw [if_pos h1, if_pos (by omega)]
    show (if 2 ^ (64 - 1) ≤ v then Lib.NumEnd.range else .ok (v : Int)) = .ok (v : Int)
    rw [if_neg (by omega)]
  · rw [if_neg h1]
    by_cases h2 : v ≤ 18446744073709551615
    · rw [if_pos h2]
      show (if 2 ^ (64 - 1) ≤ v then Lib.NumEnd.range else .ok (v : Int)) = .range
      rw [if_pos (by omega)]
    · rw [if_neg h2]; rfl
theorem signed_end (v : Nat) : Lib.signedC (2 ^ (64 - 1)) (if v ≤ 18446744073709551615 then .ok v else .range) = endOf (if v ≤ 9223372036854775808 then some (-(v : Int)) else none) := by
  by_cases h1 : v ≤ 9223372036854775808
  · rw [if_pos h1, if_pos (by omega)]
    show (if 2 ^ (64 - 1) < v then Lib.NumEnd.range else .ok (-(v : Int))) = .ok (-(v : Int))
    rw [if_neg (by omega)]
  · rw [if_neg h1]
    by_cases h2 : v ≤ 18446744073709551615
    · rw [if_pos h2]
      show (if 2 ^ (64 - 1) < v then Lib.NumEnd.range else .ok (-(v : Int))) = .range
      rw [if_pos (by omega)]
    · rw [if_neg h2]; rfl
theorem parse_num (neg : Bool) (ds : List UInt8) (h : allDg ds) (hne : ds ≠ []) : Lib.parseIntB 64 (withSign neg ds) = endOf (numR neg ds) := by
  have hu : Lib.parseUintB 64 ds = if valD 0 ds ≤ 18446744073709551615 then .ok (valD 0 ds) else .range := by
    unfold Lib.parseUintB
    rw [if_neg hne]
    exact parseM_digits _ (by decide) ds 0 h (by decide)
  cases neg
  · rw [show withSign false ds = ds from rfl, numR_plain]
    rcases ds with _ | ⟨c, r⟩
    · exact absurd rfl hne
    have hc := (isDg_iff c).1 (h c (by simp))
    rw [Lib.parseIntB_plain 64 c r (by omega) (by omega), hu]
    exact less_end _
  · rw [show withSign true ds = 45 :: ds from rfl, Lib.parseIntB_minus, hu, numR_neg]
    exact signed_end _

/-- What is read without fraction and exponent: digits, behind a sign or none. -/
theorem getD_at {l : List UInt8} {p : Nat} (h : p < l.length) : l.drop p = l.getD p 0 :: l.drop (p + 1) := by
  rw [List.drop_eq_getElem_cons h, List.getD_eq_getElem?_getD, List.getElem?_eq_getElem h]; rfl
theorem tk_one {x : UInt8} {l : List UInt8} {p : Nat} (h : tk [x] l p = true) : p < l.length ∧ l.getD p 0 = x := by
  refine ⟨tk_lt h, ?_⟩
  unfold tk at h
  rw [Bool.and_eq_true] at h
  have := h.2
  simpa using this
theorem tk_dg {l : List UInt8} {p : Nat} (h : tk dset l p = true) : isDg (l.getD p 0) = true := by
  unfold tk at h
  rw [Bool.and_eq_true, dset_is] at h
  exact h.2
theorem seg_digits : ∀ (n : Nat) (l : List UInt8) (p : Nat), (∀ i, p ≤ i → i < p + n → tk dset l i = true) → allDg ((l.drop p).take n) ∧ ((l.drop p).take n).length = n
  | 0, l, p, _ => by simp [allDg]
  | n + 1, l, p, h => by
    have h0 := h p (Nat.le_refl _) (by omega)
    have hp := tk_lt h0
    obtain ⟨h1, h2⟩ := seg_digits n l (p + 1) (fun i hi1 hi2 => h i (by omega) (by omega))
    rw [getD_at hp, List.take_succ_cons]
    refine ⟨?_, by rw [List.length_cons, h2]⟩
    intro c hc
    rcases List.mem_cons.1 hc with rfl | hc
    · exact tk_dg h0
    · exact h1 c hc
theorem whole_digits {l : List UInt8} {p : Nat} (h : (wholeP l p).2 = true) : ∀ i, p ≤ i → i < (wholeP l p).1 → tk dset l i = true := by
  intro i h1 h2
  unfold wholeP at h2
  split at h2
  · obtain rfl : i = p := by simp only at h2; omega
    have ht := tk_one (by assumption)
    unfold tk
    rw [decide_eq_true ht.1, ht.2]; rfl
  · exact run_all l p i h1 h2
theorem tk45 : ∀ {l : List UInt8} {p : Nat}, tk [45] l p = true → tk dset l p = false := by
  intro l p h
  have ht := tk_one h
  unfold tk
  rw [ht.2]
  have : dset.contains 45 = false := by decide
  rw [this, Bool.and_false]
/-- The shape of an integer numeral that was read. -/
theorem plain_shape {l : List UInt8} {p : Nat} (hok : (scanP l p).2.2 = true) (hp : (scanP l p).2.1 = false) :
    (scanP l p).1 = (wholeP l (signP l p)).1 ∧ (wholeP l (signP l p)).2 = true ∧ tk [46] l (scanP l p).1 = false ∧ tk [101, 69] l (scanP l p).1 = false := by
  unfold scanP at hok hp ⊢
  split at hok
  · cases hok
  · rename_i h1
    rw [if_neg h1] at hp ⊢
    split at hok
    · cases hok
    · rename_i h2
      rw [if_neg h2] at hp ⊢
      simp only [Bool.or_eq_false_iff] at hp
      obtain ⟨hp1, hp2⟩ := hp
      have hf : tk [46] l (wholeP l (signP l p)).1 = false := by
        unfold fracP at hp1
        split at hp1
        · cases hp1
        · simp_all
      have hfe : (fracP l (wholeP l (signP l p)).1).1 = (wholeP l (signP l p)).1 := by unfold fracP; rw [hf]; rfl
      rw [hfe] at hp2 ⊢
      have he : tk [101, 69] l (wholeP l (signP l p)).1 = false := by
        unfold expoP at hp2
        split at hp2
        · cases hp2
        · simp_all
      have hee : (expoP l (wholeP l (signP l p)).1).1 = (wholeP l (signP l p)).1 := by unfold expoP; rw [he]; rfl
      simp only
      rw [hee]
      exact ⟨rfl, by simpa using h1, hf, he⟩
/-- The bytes of an integer numeral that was read. -/
theorem plain_bytes {l : List UInt8} {p : Nat} (hok : (scanP l p).2.2 = true) (hp : (scanP l p).2.1 = false) :
    ∃ neg ds, (l.drop p).take ((scanP l p).1 - p) = withSign neg ds ∧ allDg ds ∧ ds ≠ [] ∧ neg = tk [45] l p ∧ ds.length = (scanP l p).1 - signP l p ∧ ds = (l.drop (signP l p)).take ((scanP l p).1 - signP l p) := by
  obtain ⟨e, hw, -, -⟩ := plain_shape hok hp
  have hd := whole_digits hw
  rw [← e] at hd
  have hgt : signP l p < (scanP l p).1 := by
    rw [e]
    unfold wholeP at hw ⊢
    split at hw
    · rw [if_pos (by assumption)]; simp only; omega
    · rw [if_neg (by assumption)]
      have h1 := of_decide_eq_true hw
      have := run_from l (signP l p)
      unfold digP
      simp only
      omega
  generalize (scanP l p).1 = q at *
  obtain ⟨h1, h2⟩ := seg_digits (q - signP l p) l (signP l p) (fun i a b => hd i a (by omega))
  refine ⟨tk [45] l p, (l.drop (signP l p)).take (q - signP l p), ?_, h1, fun e2 => by have := congrArg List.length e2; rw [h2] at this; simp at this; omega, rfl, h2, rfl⟩
  cases ht : tk [45] l p
  · have : signP l p = p := by unfold signP stepP; rw [ht]; rfl
    rw [this]; rfl
  · obtain ⟨t1, t2⟩ := tk_one ht
    have hs : signP l p = p + 1 := by unfold signP stepP; rw [ht]; rfl
    rw [hs] at hgt ⊢
    rw [getD_at t1, t2, show q - p = (q - (p + 1)) + 1 by omega, List.take_succ_cons]
    rfl
end Go.Proofs.YtchmchbgbchipaaDoor
