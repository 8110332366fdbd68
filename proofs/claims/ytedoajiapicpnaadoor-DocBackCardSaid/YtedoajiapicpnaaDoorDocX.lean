/-
  Package doc: the texts of revisions, read by the reference: the plain side.
-/
import Derived.Test.YtedoajiapicpnaaDoorDocU
namespace Go.Proofs.YtedoajiapicpnaaDoor

def valD (l : List UInt8) : Nat := l.foldl (fun n c => 10 * n + digN c.toNat) 0
def valH (l : List UInt8) : Nat := l.foldl (fun n c => 16 * n + digN c.toNat) 0
theorem valD_snoc (l : List UInt8) (c : UInt8) : valD (l ++ [c]) = 10 * valD l + digN c.toNat := by
  unfold valD
  rw [List.foldl_append]
  rfl
theorem valH_snoc (l : List UInt8) (c : UInt8) : valH (l ++ [c]) = 16 * valH l + digN c.toNat := by
  unfold valH
  rw [List.foldl_append]
  rfl
theorem hx_back (c : UInt8) (h : digN c.toNat < 16) : hx (digN c.toNat) = c := UInt8.toNat_inj.1 ((hx_digN _ h _).2 rfl)
theorem digN_hx (k : Nat) (h : k < 16) : digN (hx k).toNat = k := (hx_digN k h _).1 rfl
theorem snoc_cases (l : List UInt8) : l = [] ∨ ∃ m c, l = m ++ [c] := by
  rcases List.eq_nil_or_concat l with h | ⟨m, c, h⟩
  · exact .inl h
  · exact .inr ⟨m, c, by rw [h, List.concat_eq_append]⟩
def digs (b : Nat) (l : List UInt8) : Prop := ∀ c ∈ l, digN c.toNat < b
theorem digs_snoc {b : Nat} {l : List UInt8} {c : UInt8} (h : digs b (l ++ [c])) : digs b l ∧ digN c.toNat < b :=
  ⟨fun x hx => h x (by simp [hx]), h c (by simp)⟩
theorem digs_mk {b : Nat} {l : List UInt8} {c : UInt8} (h : digs b l) (hc : digN c.toNat < b) : digs b (l ++ [c]) := by
  intro x hx
  rcases List.mem_append.1 hx with hx | hx
  · exact h x hx
  · rw [List.mem_singleton.1 hx]
    exact hc
theorem valD_pos : ∀ (n : Nat) (l : List UInt8), l.length = n → l ≠ [] → digs 10 l → l.getD 0 0 ≠ 48 → 0 < valD l
  | 0, l, hl, hne, _, _ => absurd (List.eq_nil_of_length_eq_zero hl) hne
  | n + 1, l, hl, hne, hd, h0 => by
    rcases snoc_cases l with rfl | ⟨m, c, rfl⟩
    · exact absurd rfl hne
    · rw [valD_snoc]
      by_cases hm : m = []
      · subst hm
        have hc := (digs_snoc hd).2
        have hcc : c ≠ 48 := by simpa using h0
        have hz : digN c.toNat ≠ 0 := by
          intro e
          apply hcc
          have := hx_back c (by omega)
          rw [e] at this
          rw [← this]
          decide
        simp only [valD, List.foldl_nil]
        omega
      · have hml : m.length = n := by simpa using hl
        have h0' : m.getD 0 0 ≠ 48 := by
          cases m with
          | nil => exact absurd rfl hm
          | cons x m => simpa using h0
        have := valD_pos n m hml hm (digs_snoc hd).1 h0'
        omega
theorem dec_back : ∀ (f : Nat) (l : List UInt8), l.length ≤ f + 1 → l ≠ [] → digs 10 l → l.getD 0 0 ≠ 48 → decF f (valD l) = l
  | f, l, hl, hne, hd, h0 => by
    rcases snoc_cases l with rfl | ⟨m, c, rfl⟩
    · exact absurd rfl hne
    · have hc := (digs_snoc hd).2
      rw [valD_snoc]
      by_cases hm : m = []
      · subst hm
        simp only [valD, List.foldl_nil, List.nil_append]
        rw [decF_small _ _ (by omega), show 10 * 0 + digN c.toNat = digN c.toNat by omega, hx_back c (by omega)]
      · have h0' : m.getD 0 0 ≠ 48 := by
          cases m with
          | nil => exact absurd rfl hm
          | cons x m => simpa using h0
        have hp := valD_pos _ m rfl hm (digs_snoc hd).1 h0'
        have hlen : 0 < m.length := List.length_pos_iff.2 hm
        match f, hl with
        | 0, hl =>
          rw [List.length_append, List.length_singleton] at hl
          omega
        | f + 1, hl =>
          rw [decF, if_neg (by omega), show (10 * valD m + digN c.toNat) / 10 = valD m by omega, show (10 * valD m + digN c.toNat) % 10 = digN c.toNat by omega, hx_back c (by omega),
            dec_back f m (by simpa using hl) hm (digs_snoc hd).1 h0']
theorem valD_decF : ∀ (f n : Nat), n < 10 ^ (f + 1) → valD (decF f n) = n ∧ digs 10 (decF f n) ∧ (0 < n → (decF f n).getD 0 0 ≠ 48) ∧ 0 < (decF f n).length
  | 0, n, h => by
    have h10 : n < 10 := by simpa using h
    rw [decF_small 0 n h10]
    refine ⟨?_, ?_, fun h0 e => ?_, by simp⟩
    · simp [valD, digN_hx n (by omega)]
    · intro c hc
      rw [List.mem_singleton.1 hc, digN_hx n (by omega)]
      exact h10
    · have e2 : hx n = 48 := by simpa using e
      have := digN_hx n (by omega)
      rw [e2] at this
      have e3 : digN (48 : UInt8).toNat = 0 := by decide
      omega
  | f + 1, n, h => by
    by_cases h10 : n < 10
    · rw [decF_small _ n h10]
      refine ⟨?_, ?_, fun h0 e => ?_, by simp⟩
      · simp [valD, digN_hx n (by omega)]
      · intro c hc
        rw [List.mem_singleton.1 hc, digN_hx n (by omega)]
        exact h10
      · have e2 : hx n = 48 := by simpa using e
        have := digN_hx n (by omega)
        rw [e2] at this
        have e3 : digN (48 : UInt8).toNat = 0 := by decide
        omega
    · have hlt : n / 10 < 10 ^ (f + 1) := by rw [Nat.div_lt_iff_lt_mul (by omega), ← Nat.pow_succ]; exact h
      obtain ⟨h1, h2, h3, h4⟩ := valD_decF f (n / 10) hlt
      have hh := digN_hx (n % 10) (by omega)
      rw [decF, if_neg h10]
      refine ⟨by rw [valD_snoc, h1, hh]; omega, digs_mk h2 (by rw [hh]; omega), fun _ => ?_, by simp⟩
      have h3' := h3 (by omega)
      cases hq : decF f (n / 10) with
      | nil => rw [hq] at h4; simp at h4
      | cons x m =>
        rw [hq] at h3'
        simpa using h3'
theorem hex_back (n : Nat) : ∀ k, k ≤ 8 → ∀ l : List UInt8, l.length = k → digs 16 l → n / 16 ^ (8 - k) = valH l → hexTo n k = l
  | 0, _, l, hl, _, _ => by
    rw [List.eq_nil_of_length_eq_zero hl]
    rfl
  | k + 1, hk, l, hl, hd, hv => by
    rcases snoc_cases l with rfl | ⟨m, c, rfl⟩
    · simp at hl
    · have hc := (digs_snoc hd).2
      rw [valH_snoc] at hv
      have e1 : n / 16 ^ (8 - k) = n / 16 ^ (7 - k) / 16 := by
        rw [show 8 - k = 7 - k + 1 by omega, Nat.pow_succ, Nat.div_div_eq_div_mul]
      rw [show 8 - (k + 1) = 7 - k by omega] at hv
      rw [hexTo, hv, show (16 * valH m + digN c.toNat) % 16 = digN c.toNat by omega, hx_back c hc,
        hex_back n k (by omega) m (by simpa using hl) (digs_snoc hd).1 (by rw [e1, hv]; omega)]
theorem valH_hexTo (n : Nat) (hn : n < 4294967296) : ∀ k, k ≤ 8 → valH (hexTo n k) = n / 16 ^ (8 - k) ∧ digs 16 (hexTo n k)
  | 0, _ => by
    refine ⟨?_, fun c hc => by cases hc⟩
    rw [show n / 16 ^ (8 - 0) = 0 from Nat.div_eq_of_lt hn]
    rfl
  | k + 1, h => by
    obtain ⟨h1, h2⟩ := valH_hexTo n hn k (by omega)
    have hh := digN_hx (n / 16 ^ (7 - k) % 16) (Nat.mod_lt _ (by decide))
    have e1 : n / 16 ^ (8 - k) = n / 16 ^ (7 - k) / 16 := by
      rw [show 8 - k = 7 - k + 1 by omega, Nat.pow_succ, Nat.div_div_eq_div_mul]
    rw [hexTo]
    refine ⟨?_, digs_mk h2 (by rw [hh]; exact Nat.mod_lt _ (by decide))⟩
    rw [valH_snoc, h1, hh, e1, show 8 - (k + 1) = 7 - k by omega]
    omega

/-- The shape that the reference asks for: at most ten bytes, a hyphen, eight bytes. -/
def shapeP (l : List UInt8) : Prop := 10 ≤ l.length ∧ l.length ≤ 19 ∧ l.getD (l.length - 9) 0 = 45 ∧ l.getD 0 0 ≠ 48
def goodP (l : List UInt8) : Prop := shapeP l ∧ digs 10 (l.take (l.length - 9)) ∧ digs 16 (l.drop (l.length - 8)) ∧ valD (l.take (l.length - 9)) ≤ 4294967295
theorem split9 (l : List UInt8) (h : 10 ≤ l.length) : l = l.take (l.length - 9) ++ [l.getD (l.length - 9) 0] ++ l.drop (l.length - 8) := by
  have h1 := take_snoc l (l.length - 9) (by omega)
  rw [show l.length - 9 + 1 = l.length - 8 by omega] at h1
  rw [← h1]
  exact (List.take_append_drop _ l).symm
theorem valH_lt : ∀ (k : Nat) (l : List UInt8), l.length = k → digs 16 l → valH l < 16 ^ k
  | 0, l, hl, _ => by rw [List.eq_nil_of_length_eq_zero hl]; decide
  | k + 1, l, hl, hd => by
    rcases snoc_cases l with rfl | ⟨m, c, rfl⟩
    · simp at hl
    · have := valH_lt k m (by simpa using hl) (digs_snoc hd).1
      have hc := (digs_snoc hd).2
      rw [valH_snoc, Nat.pow_succ]
      omega
/-- A good text is the text of the revision that is read from it. -/
theorem good_text (l : List UInt8) (h : goodP l) : textL (valD (l.take (l.length - 9))) (valH (l.drop (l.length - 8))) = l ∧ 0 < valD (l.take (l.length - 9)) := by
  obtain ⟨⟨h1, h2, h3, h4⟩, h5, h6, h7⟩ := h
  have hne : l.take (l.length - 9) ≠ [] := by
    intro e
    have := congrArg List.length e
    rw [List.length_take] at this
    simp at this
    omega
  have h0 : (l.take (l.length - 9)).getD 0 0 ≠ 48 := by
    rw [List.getD_eq_getElem?_getD, List.getElem?_take, if_pos (by omega), ← List.getD_eq_getElem?_getD]
    exact h4
  have hd := dec_back 9 _ (by rw [List.length_take]; omega) hne h5 h0
  have hx := hex_back (valH (l.drop (l.length - 8))) 8 (Nat.le_refl _) (l.drop (l.length - 8)) (by rw [List.length_drop]; omega) h6 (by simp)
  refine ⟨?_, valD_pos _ _ rfl hne h5 h0⟩
  unfold textL
  rw [hd, hx]
  have := split9 l h1
  rw [h3] at this
  exact this.symm
theorem text_good (g m : Nat) (h0 : 0 < g) (hg : g < 4294967296) (hm : m < 4294967296) : goodP (textL g m) ∧ valD ((textL g m).take ((textL g m).length - 9)) = g ∧ valH ((textL g m).drop ((textL g m).length - 8)) = m := by
  obtain ⟨d1, d2, d3, d4⟩ := valD_decF 9 g (by omega)
  obtain ⟨x1, x2⟩ := valH_hexTo m hm 8 (Nat.le_refl _)
  have hl := decF_length 9 g
  have h8 := hexTo_length m 8
  have e0 : textL g m = decF 9 g ++ (45 :: hexTo m 8) := by
    unfold textL
    rw [List.append_assoc]
    rfl
  have el : (textL g m).length = (decF 9 g).length + 9 := by
    rw [e0, List.length_append, List.length_cons, h8]
  have et : (textL g m).take ((textL g m).length - 9) = decF 9 g := by
    rw [el, Nat.add_sub_cancel, e0]
    simp
  have ed : (textL g m).drop ((textL g m).length - 8) = hexTo m 8 := by
    rw [el, show (decF 9 g).length + 9 - 8 = (decF 9 g).length + 1 by omega, e0, List.drop_append]
    simp
  refine ⟨⟨⟨by omega, by omega, ?_, ?_⟩, by rw [et]; exact d2, by rw [ed]; exact x2, by rw [et, d1]; omega⟩, by rw [et, d1], by rw [ed, x1]; simp⟩
  · rw [el, Nat.add_sub_cancel, e0]
    simp
  · have := d3 h0
    rw [e0]
    cases hq : decF 9 g with
    | nil => rw [hq] at d4; simp at d4
    | cons x r =>
      rw [hq] at this
      simpa using this
theorem scan_lt : ∀ (l : List UInt8) (st st' : Nat × Nat × Bool), st.2.1 < 4294967296 → scan l st = some st' → st'.2.1 < 4294967296
  | [], st, st', h, e => by
    injection e with e
    subst e
    exact h
  | c :: l, st, st', h, e => by
    simp only [scan] at e
    cases hs : scan1 st c with
    | none => rw [hs] at e; cases e
    | some st1 =>
      rw [hs] at e
      refine scan_lt l st1 st' ?_ e
      unfold scan1 at hs
      split at hs
      · split at hs
        · injection hs with hs
          subst hs
          simp only
          omega
        · cases hs
      · split at hs
        · injection hs with hs
          subst hs
          exact h
        · split at hs
          · injection hs with hs
            subst hs
            exact h
          · cases hs
theorem parse_some (l : List UInt8) (hl : l ≠ []) (h : goodP l) : parseOk l = some (valD (l.take (l.length - 9)), valH (l.drop (l.length - 8))) := by
  obtain ⟨ht, hp⟩ := good_text l h
  obtain ⟨⟨h1, h2, h3, h4⟩, h5, h6, h7⟩ := h
  have hm := valH_lt 8 (l.drop (l.length - 8)) (by rw [List.length_drop]; omega) h6
  unfold parseOk
  rw [if_neg hl]
  have hs := scan_text _ _ (by omega : valD (l.take (l.length - 9)) < 4294967296) (by simpa using hm)
  rw [ht] at hs
  rw [hs]
  simp only
  rw [if_pos ⟨hp, h7, ht⟩]
theorem parse_none (l : List UInt8) (hl : l ≠ []) (h : ¬ goodP l) : parseOk l = none := by
  unfold parseOk
  rw [if_neg hl]
  cases hs : scan l (0, 0, false) with
  | none => rfl
  | some st =>
    simp only
    by_cases hc : 0 < st.1 ∧ st.1 ≤ 4294967295 ∧ textL st.1 st.2.1 = l
    · exfalso
      apply h
      have hm := scan_lt l _ _ (by decide) hs
      have := (text_good st.1 st.2.1 hc.1 (by omega) hm).1
      rw [hc.2.2] at this
      exact this
    · rw [if_neg hc]
end Go.Proofs.YtedoajiapicpnaaDoor
