/-
  Layer 3, plain: a numeral without needless digits is its number's own; numerals' own digits.
-/
import Derived.Test.YtchmchbgbchipaaDoorNumQ
import Derived.Test.YtchmchbgbchipaaDoorNumD
namespace Go.Proofs.YtchmchbgbchipaaDoor

theorem valD_pos (c : UInt8) (r : List UInt8) (h : isDg c = true) (h0 : c ≠ 48) : 1 ≤ valD 0 (c :: r) := by
  have hc := (isDg_iff c).1 h
  have h1 : c.toNat ≠ 48 := fun e => h0 (UInt8.toNat_inj.1 e)
  have := valD_ge r (0 * 10 + (c.toNat - 48))
  show 1 ≤ valD (0 * 10 + (c.toNat - 48)) r
  omega
theorem dec_one_digit (c : UInt8) (h : isDg c = true) : Lib.decDigits (valD 0 [c]) = [c] := by
  have hc := (isDg_iff c).1 h
  rw [valD_one, Lib.decDigits_one (by omega)]
  have : UInt8.ofNat (48 + (0 * 10 + (c.toNat - 48))) = c := by
    rw [show 48 + (0 * 10 + (c.toNat - 48)) = c.toNat by omega]; simp
  rw [this]
/-- Digits without a needless 0 are the number's own. -/
theorem canon : ∀ (n : Nat) (ds : List UInt8), ds.length ≤ n → allDg ds → ds ≠ [] → (ds = [48] ∨ ds.head? ≠ some 48) → Lib.decDigits (valD 0 ds) = ds
  | 0, ds, hn, _, hne, _ => absurd (List.eq_nil_of_length_eq_zero (by omega)) hne
  | n + 1, ds, hn, hd, hne, hh => by
    have e := List.dropLast_concat_getLast hne
    have hlast := hd _ (List.getLast_mem hne)
    generalize ds.getLast hne = c at *
    rcases hi : ds.dropLast with _ | ⟨a, r⟩
    · rw [hi] at e
      rw [← e]
      exact dec_one_digit c hlast
    · rw [hi] at e
      subst e
      have ha : isDg a = true := hd a (by simp)
      have ha0 : a ≠ 48 := by
        intro e
        rcases hh with h | h
        · have := congrArg List.length h; simp at this
        · exact h (by rw [e]; rfl)
      have ih := canon n (a :: r) (by simp at hn ⊢; omega) (fun x hx => hd x (by simp at hx ⊢; rcases hx with h | h <;> simp [h])) (by simp) (.inr (by simp [ha0]))
      have hp := valD_pos a r ha ha0
      have hc := (isDg_iff c).1 hlast
      rw [valD_append, valD_one]
      generalize valD 0 (a :: r) = v at *
      have hb : ¬ v * 10 + (c.toNat - 48) < 10 := by omega
      rw [Lib.decDigits, dif_neg hb, show (v * 10 + (c.toNat - 48)) / 10 = v by omega, ih, show 48 + (v * 10 + (c.toNat - 48)) % 10 = c.toNat by omega]
      simp
theorem dec_digits : ∀ (k u : Nat), u ≤ k → allDg (Lib.decDigits u) ∧ Lib.decDigits u ≠ [] ∧ valD 0 (Lib.decDigits u) = u ∧ (u ≠ 0 → (Lib.decDigits u).head? ≠ some 48)
  | k, u, hk => by
    by_cases hu : u < 10
    · rw [Lib.decDigits_one hu]
      have ht : (UInt8.ofNat (48 + u)).toNat = 48 + u := by rw [UInt8.toNat_ofNat']; omega
      refine ⟨fun c hc => ?_, by simp, by rw [valD_one, ht]; omega, fun h0 e => ?_⟩
      · obtain rfl : c = UInt8.ofNat (48 + u) := by simpa using hc
        rw [isDg_iff, ht]; omega
      · have e2 : UInt8.ofNat (48 + u) = 48 := by simpa using e
        have := congrArg UInt8.toNat e2
        rw [ht] at this
        have h48 : (48 : UInt8).toNat = 48 := rfl
        omega
    · match k, hk with
      | 0, hk => omega
      | k + 1, hk =>
        obtain ⟨h1, h2, h3, h4⟩ := dec_digits k (u / 10) (by omega)
        rw [Lib.decDigits, dif_neg hu]
        have ht : (UInt8.ofNat (48 + u % 10)).toNat = 48 + u % 10 := by rw [UInt8.toNat_ofNat']; omega
        refine ⟨fun c hc => ?_, by simp, by rw [valD_append, h3, valD_one, ht]; omega, fun _ => ?_⟩
        · rcases List.mem_append.1 hc with h | h
          · exact h1 c h
          · obtain rfl : c = UInt8.ofNat (48 + u % 10) := by simpa using h
            rw [isDg_iff, ht]; omega
        · rcases hx : Lib.decDigits (u / 10) with _ | ⟨a, r⟩
          · exact absurd hx h2
          · have := h4 (by omega)
            rw [hx] at this
            simpa using this

theorem whole_zero' {l : List UInt8} {p : Nat} (h : tk [48] l p = true) : (wholeP l p).1 = p + 1 := by unfold wholeP; rw [h]; rfl
theorem read_says {l : List UInt8} {p : Nat} {v : Int} (hok : (scanP l p).2.2 = true) (hpart : (scanP l p).2.1 = false) (hv : Lib.parseIntB 64 (numL l p) = .ok v) :
    (numL l p = [45, 48] ∧ v = 0) ∨ (numL l p ≠ [45, 48] ∧ numL l p = Lib.itoa v ∧ (tk dset l (scanP l p).1 = true → v = 0)) := by
  obtain ⟨neg, ds, hsh, hdg, hne, hneg, hlen, hds⟩ := plain_bytes hok hpart
  obtain ⟨e, hw, -, -⟩ := plain_shape hok hpart
  have hnl : numL l p = withSign neg ds := hsh
  rw [hnl] at hv ⊢
  rw [parse_num neg ds hdg hne] at hv
  have hcan : (ds = [48] ∧ valD 0 ds = 0) ∨ (ds.head? ≠ some 48 ∧ tk dset l (scanP l p).1 = false ∧ 1 ≤ valD 0 ds) := by
    have hgt := whole_gt hw
    rw [← e] at hgt
    have hp : signP l p < l.length := by
      rcases Nat.lt_or_ge (signP l p) l.length with h | h
      · exact h
      · have : ds = [] := by rw [hds, List.drop_of_length_le h]; simp
        exact absurd this hne
    have hd0 : ds = l.getD (signP l p) 0 :: (l.drop (signP l p + 1)).take ((scanP l p).1 - signP l p - 1) := by
      rw [hds, getD_at hp, show (scanP l p).1 - signP l p = ((scanP l p).1 - signP l p - 1) + 1 by omega, List.take_succ_cons]
      rfl
    cases h48 : tk [48] l (signP l p)
    · right
      have h0 : l.getD (signP l p) 0 ≠ 48 := by
        intro e2
        have : tk [48] l (signP l p) = true := by
          unfold tk
          rw [decide_eq_true hp, e2]; rfl
        rw [h48] at this; cases this
      have hrun : (scanP l p).1 = runP l (signP l p) := by
        rw [e]; unfold wholeP; rw [h48]; rfl
      refine ⟨by rw [hd0]; simp only [List.head?_cons, ne_eq, Option.some.injEq]; exact h0, by rw [hrun]; exact run_stops _ _, ?_⟩
      have hd1 : isDg (l.getD (signP l p) 0) = true := hdg _ (by rw [hd0]; simp)
      rw [hd0]
      exact valD_pos _ _ hd1 h0
    · left
      have hq : (scanP l p).1 = signP l p + 1 := by rw [e, whole_zero' h48]
      have ht := tk_one h48
      have : ds = [48] := by rw [hd0, hq, ht.2]; simp
      exact ⟨this, by rw [this]; rfl⟩
  have hR : numR neg ds = some v := by
    rcases h : numR neg ds with _ | u
    · rw [h] at hv; cases hv
    · rw [h] at hv
      have : u = v := by simpa [endOf] using hv
      rw [this]
  rcases hcan with ⟨rfl, hz⟩ | ⟨hh, ht, hpos⟩
  · cases neg
    · rw [numR_plain, hz, if_pos (by decide)] at hR
      have hv0 : v = 0 := by simpa using hR.symm
      subst hv0
      refine .inr ⟨by decide, ?_, fun _ => rfl⟩
      have h := Lib.itoa_nonneg 0
      rw [Lib.decDigits_one (i := 0) (by decide)] at h
      exact h.symm
    · rw [numR_neg, hz, if_pos (by decide)] at hR
      have hv0 : v = 0 := by simpa using hR.symm
      exact .inl ⟨rfl, hv0⟩
  · have hc := canon ds.length ds (Nat.le_refl _) hdg hne (.inr hh)
    right
    refine ⟨?_, ?_, fun h => by rw [ht] at h; cases h⟩
    · cases neg
      · intro e2
        have e3 : ds = [45, 48] := e2
        have := hdg 45 (by rw [e3]; simp)
        revert this; decide
      · intro e2
        have e3 : ds = [48] := by injection e2
        rw [e3] at hh
        exact hh rfl
    · cases neg
      · rw [numR_plain] at hR
        split at hR
        · have : v = (valD 0 ds : Int) := by simpa using hR.symm
          rw [this, Lib.itoa_nonneg, hc]; rfl
        · cases hR
      · rw [numR_neg] at hR
        split at hR
        · have : v = -(valD 0 ds : Int) := by simpa using hR.symm
          rw [this, Lib.itoa_neg _ hpos, hc]; rfl
        · cases hR
end Go.Proofs.YtchmchbgbchipaaDoor
