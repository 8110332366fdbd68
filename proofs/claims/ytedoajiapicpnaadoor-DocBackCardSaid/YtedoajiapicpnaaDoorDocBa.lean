/-
  Layer 19: what DocBack asks of revisions' texts, plain.
-/
import Derived.Test.YtedoajiapicpnaaDoorDocX
import Derived.Test.YtedoajiapicpnaaDoorDocTexts
namespace Go.Proofs.YtedoajiapicpnaaDoor
open Go.RowKit

/-- A byte of ASCII that is no capital. -/
def lowP (c : UInt8) : Prop := (c.toNat < 65 ∨ 90 < c.toNat) ∧ c.toNat < 128
theorem low_hx : ∀ k, k < 16 → lowP (hx k) := by
  intro k hk
  have : ∀ k : Fin 16, (((hx k.val).toNat < 65 ∨ 90 < (hx k.val).toNat) ∧ (hx k.val).toNat < 128) := by decide
  exact this ⟨k, hk⟩
theorem low_dig (c : UInt8) (h : digN c.toNat < 16) : lowP c := by
  have := low_hx _ h
  rwa [hx_back c h] at this
theorem low_text (g m : Nat) (h0 : 0 < g) (hg : g < 4294967296) (hm : m < 4294967296) : ∀ c ∈ textL g m, lowP c := by
  obtain ⟨⟨⟨h1, h2, h3, h4⟩, h5, h6, h7⟩, -, -⟩ := text_good g m h0 hg hm
  intro c hc
  rw [split9 _ h1] at hc
  rcases List.mem_append.1 hc with hc | hc
  · rcases List.mem_append.1 hc with hc | hc
    · exact low_dig c (Nat.lt_of_lt_of_le (h5 c hc) (by decide))
    · rw [List.mem_singleton.1 hc, h3]
      exact ⟨by decide, by decide⟩
  · exact low_dig c (h6 c hc)
theorem low_rev (g m : Nat) (hg : g < 4294967296) (hm : m < 4294967296) : (∀ c ∈ revL g m, lowP c) ∧ (revL g m).length ≤ 19 := by
  unfold revL
  by_cases h0 : g = 0
  · rw [if_pos h0]; exact ⟨by simp, by simp⟩
  · rw [if_neg h0]
    exact ⟨low_text g m (by omega) hg hm, (text_good g m (by omega) hg hm).1.1.2.1⟩
/-- A revision that has a text is read from it. -/
theorem parse_rev (g m : Nat) (hg : g < 4294967296) (hm : m < 4294967296) (hv : revE g m = 0) : parseOk (revL g m) = some (g, m) := by
  unfold revE at hv
  unfold parseOk revL
  by_cases h0 : g = 0
  · by_cases hm0 : m = 0
    · rw [if_pos h0, if_pos rfl, h0, hm0]
    · rw [if_pos ⟨h0, hm0⟩] at hv
      cases hv
  · rw [if_neg h0]
    have hne : textL g m ≠ [] := by
      intro e
      have := (text_good g m (by omega) hg hm).1.1.1
      rw [e] at this
      simp at this
    rw [if_neg hne, scan_text g m hg hm]
    simp only
    rw [if_pos ⟨by omega, by omega, trivial⟩]
theorem par_rev (g m : Nat) (hg : g < 4294967296) (hm : m < 4294967296) (hv : revE g m = 0) : parV (revL g m) = revV g m ∧ parE (revL g m) = 0 := by
  unfold parV parE
  rw [parse_rev g m hg hm hv]
  exact ⟨rfl, rfl⟩
/-- What is read has that text. -/
theorem parse_back (l : List UInt8) (x y : Nat) (h : parseOk l = some (x, y)) : revL x y = l ∧ revE x y = 0 ∧ x < 4294967296 ∧ y < 4294967296 := by
  unfold parseOk at h
  by_cases hl : l = []
  · rw [if_pos hl] at h
    injection h with h
    injection h with h1 h2
    subst h1 h2
    exact ⟨by rw [hl]; rfl, rfl, by decide, by decide⟩
  · rw [if_neg hl] at h
    cases hs : scan l (0, 0, false) with
    | none => rw [hs] at h; cases h
    | some st =>
      rw [hs] at h
      simp only at h
      by_cases hc : 0 < st.1 ∧ st.1 ≤ 4294967295 ∧ textL st.1 st.2.1 = l
      · rw [if_pos hc] at h
        injection h with h
        injection h with h1 h2
        subst h1 h2
        refine ⟨?_, ?_, by omega, scan_lt l (0, 0, false) st (by decide) hs⟩
        · unfold revL; rw [if_neg (by omega)]; exact hc.2.2
        · unfold revE; rw [if_neg (fun hh => by omega)]
      · rw [if_neg hc] at h; cases h
theorem rev_iff (g m x y : Nat) (l : List UInt8) (hg : g < 4294967296) (hm : m < 4294967296) (hv : revE g m = 0) (h : parseOk l = some (x, y)) : (x = g ∧ y = m) ↔ l = revL g m := by
  constructor
  · rintro ⟨rfl, rfl⟩
    exact (parse_back l x y h).1.symm
  · intro e
    rw [e, parse_rev g m hg hm hv] at h
    injection h with h
    injection h with h1 h2
    exact ⟨h1.symm, h2.symm⟩
theorem rev_not (g m : Nat) (l : List UInt8) (hg : g < 4294967296) (hm : m < 4294967296) (hv : revE g m = 0) (h : parseOk l = none) : l ≠ revL g m := by
  intro e
  rw [e, parse_rev g m hg hm hv] at h
  cases h
end Go.Proofs.YtedoajiapicpnaaDoor
